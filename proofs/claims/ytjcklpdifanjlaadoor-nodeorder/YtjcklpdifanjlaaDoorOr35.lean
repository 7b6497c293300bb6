/- The document's side of entries, told with where it lies; entries in a list that is kept apart from some blocks. -/
import Derived.Test.YtjcklpdifanjlaaDoorOr27
import Derived.Test.YtjcklpdifanjlaaDoorOr34
namespace Go.Proofs.YtjcklpdifanjlaaDoor
set_option maxRecDepth 20000
open Go.RowKit

def SideOwn (w0 : World) (es : List Ent) (d : Nat) (b : Int) (w : World) (e : Ending) (w' : World) : Prop :=
  ∃ v its, e = .returned v ∧ its.map (·.1) = sideOf es d b ∧ (∀ p ∈ its, Key p.1.1 ∧ Reads w0 p.2 p.1.2) ∧ w'.ownsRow w.heap.size 75 33 v its.length (flatP its) ∧ Below w.heap.size w w'

set_option maxRecDepth 100000 in
set_option maxHeartbeats 8000000 in
theorem refSide_own (w0 : World) (v : Value) (V : Nat → Value) (es : List Ent) (d : Nat) (b : Int) (w : World) (hv : PrAt w v V es) (hr0 : ∀ i, i < es.length → Reads w0 (V i) (es.getD i e00).2) (hn : es.length ≤ 4096) :
    Calls Tryd.prog 58 #[v, .int .i64 d, .int .i64 b] w (SideOwn w0 es d b w) := by
  have hkeys := hv.keys
  obtain ⟨a, cap, rfl, hcap, hc, hr⟩ := hv
  have HC := hidden hc
  have HR : Hid (∀ i, i < es.length → Key (es.getD i e00).1 ∧ Reads w0 (V i) (es.getD i e00).2) := fun i hi => ⟨(hr i hi).1, hr0 i hi⟩
  obtain ⟨n, hnn⟩ : ∃ n, n = es.length := ⟨_, rfl⟩
  have HN := hidden hnn
  have HPost : Hid (∀ w' s its, its.map (·.1) = sideOf es d b → (∀ p ∈ its, Key p.1.1 ∧ Reads w0 p.2 p.1.2) → w'.ownsRow w.heap.size 75 33 s its.length (flatP its) → Below w.heap.size w w' → SideOwn w0 es d b w (.returned s) w') := fun w' s its h1 h2 h3 h4 => ⟨s, its, rfl, h1, h2, h3, h4⟩
  rw [← hnn] at hn ⊢
  clear hc hr hcap hnn hkeys hr0
  go_enter Tryd.func58, Tryd.ntmps58
  go_wp2_with fail
  go_loopw [7, 8] (fun s i wr => ∃ (k m : Nat) (its : List (Ent × Value)) (sa : Option Addr) (sc : Nat), k ≤ n ∧ i = .int .i64 k ∧ s = .slice sa m sc ∧ Hid (its.length = m) ∧ Hid (its.map (·.1) = sideOf (es.take k) d b) ∧ Hid (∀ p ∈ its, Key p.1.1 ∧ Reads w0 p.2 p.1.2) ∧ Hid (wr.ownsRow w.heap.size 75 33 (.slice sa m sc) m (flatP its)) ∧ Below w.heap.size w wr) (fun _ i _ => n - (intOf i).toNat)
  case atStart => exact ⟨0, 0, [], none, 0, by omega, rfl, rfl, rfl, rfl, fun p hp => by simp at hp, World.ownsRow_nil _ _ _ _, Below.refl _ _⟩
  case round =>
    obtain ⟨k, m, its, sa, sc, hk, rfl, rfl, hml, him, hia, hio, hbw⟩ := hrel
    by_cases hlt : k < n
    · have hlt' : k < es.length := by rw [← HN.out]; exact hlt
      obtain ⟨g, off, rfl, hcc⟩ := HC.out (by omega)
      have z1 : (k : Int) < (n : Int) := by omega
      have z0 : (0 : Int) ≤ (k : Int) := by omega
      obtain ⟨hkey, hrd⟩ := HR.out k hlt'
      have hst := side_step es k d b hlt'
      have hil : m ≤ 4096 := by
        have := congrArg List.length him.out
        rw [List.length_map, hml.out] at this
        rw [this]
        exact Nat.le_trans (List.length_filter_le _ _) (by simp; omega)
      have HCC : Hid (∀ w', Below w.heap.size w w' → w'.rangeAt g (off + k * 33) (encP (es.getD k e00).1 (V k))) := fun w' hw' => rng_grow (hcc k hlt') hw'
      have HBit : Hid (∀ w', Calls Tryd.prog 57 #[.agg (B (es.getD k e00).1), .int .i64 d] w' fun e w'' => e = .returned (.int .i64 (kbi (es.getD k e00).1 d)) ∧ Below w'.heap.size w' w'') := fun w' => rbit_any _ d w' hkey
      have HV1 := hidden (reads_one hrd)
      have HKY := hidden hkey
      have HRD := hidden hrd
      obtain ⟨E, hE⟩ : ∃ E, E = es.getD k e00 := ⟨_, rfl⟩
      obtain ⟨β, hβ⟩ : ∃ β, β = kbi E.1 d := ⟨_, rfl⟩
      rw [← hE] at hst HCC HBit HKY HRD
      rw [← hβ] at hst HBit
      clear hcc hkey hrd hlt' hE hβ
      by_cases hbb : β = b
      · have hb2 : (β == b) = true := by simp [hbb]
        rw [hb2, if_pos rfl] at hst
        have HIM : Hid ((its ++ [(E, V k)]).map (·.1) = sideOf (es.take (k + 1)) d b) := by
          show _ = _
          rw [hst, List.map_append, him.out]
          rfl
        have HIA : Hid (∀ p ∈ its ++ [(E, V k)], Key p.1.1 ∧ Reads w0 p.2 p.1.2) := by
          intro p hp
          rcases List.mem_append.1 hp with hp | hp
          · exact hia.out p hp
          · obtain rfl : p = (E, V k) := by simpa using hp
            exact ⟨HKY.out, HRD.out⟩
        clear hst hbb
        go_wp2_with (first
          | ((with_reducible refine at_ldd 19 18 ?_); refine wpList_ldk _ rfl _ rfl g (off + k * 33) E.1 rfl (rng_key (HCC.out _ hbw)) HKY.out.1 ?_)
          | (go_at_call 57; refine (HBit.out _).mono ?_; rintro e w2 ⟨rfl, q2⟩; have c2 := grow_trans hbw q2; have HIO := hidden (ownsP_below hio.out q2))
          | ((with_reducible refine at_ldd 28 27 ?_); refine wpList_ldp _ rfl _ rfl g (off + k * 33) E.1 (V k) rfl (HCC.out _ c2) HKY.out.1 ?_)
          | (refine wpList_bsp _ rfl _ rfl E.1 (V k) rfl HKY.out.1 ?_)
          | (at_builtin; refine wpList_appP _ rfl _ _ rfl w.heap.size _ m (flatP its) (HIO.out.alloc _) rfl w2.heap.size E.1 (V k) rfl (Blk.new _ _ _) HKY.out.1 HV1.out hil (Nat.le_trans c2.size (by simp)) ?_; intro v' w3 ho3 hg3))
        have c3 := below_own (grow_trans c2 (grow_alloc _ _)) (HIO.out.alloc _) (Nat.le_refl _) hg3
        rw [← flatP_snoc its (E, V k)] at ho3
        obtain ⟨sa', sc', rfl⟩ : ∃ sa' sc', v' = .slice sa' (m + 1) sc' := by
          rcases ho3.2 with ⟨e, e2⟩ | ⟨g', cap', cur, e, _⟩
          · omega
          · exact ⟨_, _, e⟩
        exact ⟨⟨k + 1, m + 1, its ++ [(E, V k)], sa', sc', by omega, by go_num, rfl, by show _ = _; rw [List.length_append, hml.out]; rfl, HIM, HIA, ho3, c3⟩, by simp [intOf]; omega⟩
      · have hb2 : (β == b) = false := by simp [hbb]
        rw [hb2, if_neg (by simp), List.append_nil] at hst
        have HIM : Hid (its.map (·.1) = sideOf (es.take (k + 1)) d b) := by
          show _ = _
          rw [hst, him.out]
        clear hst hbb
        go_wp2_with (first
          | ((with_reducible refine at_ldd 19 18 ?_); refine wpList_ldk _ rfl _ rfl g (off + k * 33) E.1 rfl (rng_key (HCC.out _ hbw)) HKY.out.1 ?_)
          | (go_at_call 57; refine (HBit.out _).mono ?_; rintro e w2 ⟨rfl, q2⟩; have c2 := grow_trans hbw q2; have HIO := hidden (ownsP_below hio.out q2)))
        exact ⟨⟨k + 1, m, its, sa, sc, by omega, by go_num, rfl, hml, HIM, hia, HIO, c2⟩, by simp [intOf]; omega⟩
    · have hkn : k = es.length := by rw [← HN.out]; omega
      have z1 : ¬ (k : Int) < (n : Int) := by omega
      rw [hkn, List.take_length] at him
      clear hkn
      go_wp2
      go_ret
      exact HPost.out _ _ _ him.out hia.out (by rw [hml.out]; exact hio.out) hbw


/-- Entries whose list lies in a block of which R holds; their values were there in w0. -/
def PrO (w0 w : World) (R : Nat → Prop) (v : Value) (its : List (Ent × Value)) : Prop :=
  (∀ p ∈ its, Key p.1.1 ∧ Reads w0 p.2 p.1.2) ∧ ∃ a cap, v = .slice a its.length cap ∧ its.length ≤ cap ∧
    (0 < its.length → ∃ g off, a = some ⟨g, off, none⟩ ∧ R g ∧ g < w.heap.size ∧ ∀ i, i < its.length → w.rangeAt g (off + i * 33) (encP (its.getD i (e00, undef)).1.1 (its.getD i (e00, undef)).2))

theorem PrO.kept {w0 w w' : World} {R : Nat → Prop} {v : Value} {its : List (Ent × Value)} {row : Option Nat} (h : PrO w0 w R v its) (hg : w.grownBy w' row) (hR : ∀ g, R g → some g ≠ row) : PrO w0 w' R v its := by
  obtain ⟨h1, a, cap, e, h2, h3⟩ := h
  refine ⟨h1, a, cap, e, h2, fun hp => ?_⟩
  obtain ⟨g, off, ea, hr, hlt, hc⟩ := h3 hp
  exact ⟨g, off, ea, hr, Nat.lt_of_lt_of_le hlt hg.size, fun i hi j u hu => hg.cell (a := ⟨g, off + i * 33 + j, none⟩) (hc i hi j u hu) (hR g hr)⟩
theorem PrO.grow {w0 w w' : World} {R : Nat → Prop} {v : Value} {its : List (Ent × Value)} (h : PrO w0 w R v its) (hb : Below w.heap.size w w') : PrO w0 w' R v its := by
  obtain ⟨h1, a, cap, e, h2, h3⟩ := h
  refine ⟨h1, a, cap, e, h2, fun hp => ?_⟩
  obtain ⟨g, off, ea, hr, hlt, hc⟩ := h3 hp
  exact ⟨g, off, ea, hr, Nat.lt_of_lt_of_le hlt hb.size, fun i hi => rng_grow (hc i hi) hb⟩
theorem PrO.imp {w0 w : World} {R R' : Nat → Prop} {v : Value} {its : List (Ent × Value)} (h : PrO w0 w R v its) (hR : ∀ g, g < w.heap.size → R g → R' g) : PrO w0 w R' v its := by
  obtain ⟨h1, a, cap, e, h2, h3⟩ := h
  refine ⟨h1, a, cap, e, h2, fun hp => ?_⟩
  obtain ⟨g, off, ea, hr, hlt, hc⟩ := h3 hp
  exact ⟨g, off, ea, hR g hlt hr, hlt, hc⟩
theorem getD_fst (its : List (Ent × Value)) (i : Nat) (hi : i < its.length) : (its.map (·.1)).getD i e00 = its[i].1 ∧ its.getD i (e00, undef) = its[i] := ⟨by simp [List.getD, hi], by simp [List.getD, hi]⟩
theorem PrO.at {w0 w : World} {R : Nat → Prop} {v : Value} {its : List (Ent × Value)} (h : PrO w0 w R v its) (hb : Below w0.heap.size w0 w) : PrAt w v (fun i => (its.getD i (e00, undef)).2) (its.map (·.1)) ∧ ∀ i, i < (its.map (·.1)).length → Reads w0 (its.getD i (e00, undef)).2 ((its.map (·.1)).getD i e00).2 := by
  obtain ⟨h1, a, cap, e, h2, h3⟩ := h
  have hk : ∀ i, i < (its.map (·.1)).length → Key ((its.map (·.1)).getD i e00).1 ∧ Reads w0 (its.getD i (e00, undef)).2 ((its.map (·.1)).getD i e00).2 := by
    intro i hi
    rw [List.length_map] at hi
    obtain ⟨e1, e2⟩ := getD_fst its i hi
    rw [e1, e2]
    exact h1 _ (List.getElem_mem hi)
  refine ⟨⟨a, cap, by rw [List.length_map]; exact e, by rw [List.length_map]; exact h2, fun hp => ?_, fun i hi => ⟨(hk i hi).1, (hk i hi).2.grow hb⟩⟩, fun i hi => (hk i hi).2⟩
  rw [List.length_map] at hp ⊢
  obtain ⟨g, off, ea, _, _, hc⟩ := h3 hp
  refine ⟨g, off, ea, fun i hi => ?_⟩
  obtain ⟨e1, e2⟩ := getD_fst its i hi
  have := hc i hi
  rw [e2] at this
  rw [e1]
  simp only [e2]
  exact this
/-- Entries that came in. -/
theorem PrO.of {w : World} {v : Value} {V : Nat → Value} {es : List Ent} (h : PrAt w v V es) : ∃ its, its.map (·.1) = es ∧ PrO w w (fun _ => True) v its := by
  have hk := h
  obtain ⟨a, cap, e, h1, h2, h3⟩ := h
  refine ⟨(List.range es.length).map fun i => (es.getD i e00, V i), ?_, ?_⟩
  · apply List.ext_getElem (by simp)
    intro i q1 q2
    simp [List.getD, q2]
  · refine ⟨fun p hp => ?_, a, cap, by simpa using e, by simpa using h1, fun hp => ?_⟩
    · obtain ⟨i, hi, rfl⟩ := List.mem_map.1 hp
      exact h3 i (List.mem_range.1 hi)
    · have hp' : 0 < es.length := by simpa using hp
      obtain ⟨g, off, ea, hc⟩ := h2 hp'
      refine ⟨g, off, ea, trivial, ?_, fun i hi => ?_⟩
      · have := hc 0 hp' 32 (V 0) (by unfold encP; rw [List.getElem?_append_right (by rw [List.length_map, (h3 0 hp').1.1]; exact Nat.le_refl _), List.length_map, (h3 0 hp').1.1]; rfl)
        exact block_lt_of_cell this
      · have hi' : i < es.length := by simpa using hi
        have := hc i hi'
        simpa [List.getD, hi'] using this
/-- Entries of the call's own. -/
theorem PrO.own {w0 w : World} {base : Nat} {v : Value} {its : List (Ent × Value)} (h : w.ownsRow base 75 33 v its.length (flatP its)) (hk : ∀ p ∈ its, Key p.1.1 ∧ Reads w0 p.2 p.1.2) : PrO w0 w (fun g => base ≤ g) v its := by
  rcases h.2 with ⟨rfl, hn⟩ | ⟨g, cap, cur, rfl, hb, hg, hcap, _, hsz, htake⟩
  · exact ⟨hk, none, 0, by rw [hn], by omega, fun hp => by omega⟩
  · refine ⟨hk, _, cap, rfl, hcap, fun _ => ⟨g, 0, rfl, hb, (Array.getElem?_eq_some_iff.1 hg).1, fun i hi j u hu => ?_⟩⟩
    obtain ⟨e1, e2⟩ := getD_fst its i hi
    rw [e2] at hu
    have h1 := flatP_at its (fun p hp => (hk p hp).1.1) i hi j u hu
    rw [← htake] at h1
    have h2 : (cur.toList)[i * 33 + j]? = some u := by
      rw [List.getElem?_take] at h1
      split at h1
      · exact h1
      · cases h1
    rw [cell_of_row w g _ cur _ _ hg, Nat.zero_add]
    simpa using h2

end Go.Proofs.YtjcklpdifanjlaaDoor

/- node.Way, as a contract. -/
namespace Go.Proofs.YtjcklpdifanjlaaDoor
set_option maxRecDepth 20000
open Go.RowKit

/-- What Way tells. -/
def wyH (es : List Ent) (key : List Int) : List (List Int) := if errB es = 0 then sds 256 0 es key else []
def wyN (es : List Ent) (key : List Int) : List Int := if errB es = 0 then endN (rst 256 0 es key) else nd 0 z32 z32 z32 z32
def WayPost (es : List Ent) (key : List Int) (w : World) (e : Ending) (w' : World) : Prop :=
  ∃ sa sc, e = .returned (.tuple #[.agg (encR (.slice sa (wyH es key).length sc) (wyN es key)).toArray, .int .i64 (errB es)]) ∧ w'.ownsRow w.heap.size 25 32 (.slice sa (wyH es key).length sc) (wyH es key).length (flatH (wyH es key)) ∧ Below w.heap.size w w'

set_option maxHeartbeats 4000000 in
theorem way_bad (v : Value) (V : Nat → Value) (es : List Ent) (key : List Int) (w : World) (hv : PrAt w v V es) (hn : es.length ≤ 140737488355328) (hE : errB es ≠ 0) :
    Calls Tryd.prog 27 #[v, .agg (B key)] w (WayPost es key w) := by
  have HLv : Hid (∀ w', Below w.heap.size w w' → Calls Tryd.prog 52 #[v] w' fun e w'' => e = .returned (.tuple #[.slice none 0 0, .int .i64 (errB es)]) ∧ Below w'.heap.size w' w'') := fun w' hb => leavesOf_bad v V es w' (hv.grow hb) hn hE
  have HPost : Hid (∀ w', Below w.heap.size w w' → WayPost es key w (.returned (.tuple #[.agg (encR (.slice none 0 0) (nd 0 z32 z32 z32 z32)).toArray, .int .i64 (errB es)])) w') := fun w' hb => by
    refine ⟨none, 0, ?_, ?_, hb⟩
    · rw [wyH, wyN, if_neg hE, if_neg hE]
      rfl
    · rw [wyH, if_neg hE]
      exact World.ownsRow_nil _ _ _ _
  obtain ⟨a, cap, rfl, _, _, _⟩ := hv
  obtain ⟨E, hEE⟩ : ∃ E, E = errB es := ⟨_, rfl⟩
  rw [← hEE] at HLv hE HPost
  have h1 : (E != 0) = true := by simp [hE]
  have h2 : (E == 0) = false := by simp [hE]
  obtain ⟨N, hN⟩ : ∃ N, N = nd 0 z32 z32 z32 z32 := ⟨_, rfl⟩
  have HB : Hid (Tryd.prog.built 60 [] = some (encR (.slice none 0 0) N).toArray) := by rw [hN]; exact built_proof0
  have HSz : Hid ((Tryd.prog.info? 60).map (·.size) = some (encR (.slice none 0 0) N).toArray.size ∧ (encR (.slice none 0 0) (List.replicate 129 0)).toArray.size = (encR (.slice none 0 0) N).toArray.size) := ⟨encR_sz _ N (by rw [hN]; rfl), by rw [hN]; rfl⟩
  rw [← hN] at HPost
  obtain ⟨fp, hup⟩ := u_proof
  have HUP := hidden hup
  clear hEE hE hN hup
  go_enter Tryd.func27, Tryd.ntmps27
  go_wp2_with (first
    | ((with_reducible refine at_bxd 3 ?_); refine wpList_bx _ rfl _ _ rfl _ rfl ?_; intro w1 g3 hg3 hl3 B3 b1)
    | ((with_reducible refine at_ald 4 ?_); refine wpList_al _ rfl _ rfl _ zero_proof ?_; intro w2 g4 hg4 hl4 B4 b2; have c2 := grow_trans b1 b2)
    | (go_at_call 52; refine (HLv.out _ c2).mono ?_; rintro e w3 ⟨rfl, b3⟩; have D4 := B4.grow b3; have c3 := grow_trans c2 b3)
    | ((with_reducible refine at_bd ?_); refine wpList_bld _ rfl _ _ rfl _ (by rw [List.map_toArray]; exact HB.out) ?_)
    | ((with_reducible refine at_st 4 ?_); refine wpList_sto _ rfl _ _ _ rfl g4 _ (encR (.slice none 0 0) N).toArray rfl rfl D4 HSz.out.1 HSz.out.2 (encR_one _ _ _ _) ?_; intro w4 B5 r4))
  exact bodyPost_ret (v := .tuple #[.agg (encR (.slice none 0 0) N).toArray, .int .i64 E]) (results_agg_tmp rfl _ _ g4 _ _ rfl rfl B5 HUP.out HSz.out.1) rfl (HPost.out _ (below_row c3 r4 (Nat.le_trans b1.size hg4)))

set_option maxRecDepth 100000 in
set_option maxHeartbeats 8000000 in
theorem way_good (v : Value) (V : Nat → Value) (es : List Ent) (key : List Int) (w : World) (hv : PrAt w v V es) (hn : es.length ≤ 4096) (hE : errB es = 0) (hkey : Key key) (hL : Laid w) :
    Calls Tryd.prog 27 #[v, .agg (B key)] w (WayPost es key w) := by
  have hkeys := hv.keys
  have HL := hidden hL
  have HKEY := hidden hkey
  have HKZ : Hid ((Tryd.prog.info? 24).map (·.size) = some (B key).size) := by show _ = _; rw [B_size, hkey.1]; exact sz_path
  have HLv : Hid (∀ w', Below w.heap.size w w' → Calls Tryd.prog 52 #[v] w' (LvPost es w')) := fun w' hb => leavesOf_ok v V es w' (hv.grow hb) hn (hL.grow hb) hE
  have HPost : Hid (∀ w' sa sc n N hs, hs = sds 256 0 es key → N = endN (rst 256 0 es key) → hs.length = n → w'.ownsRow w.heap.size 25 32 (.slice sa n sc) n (flatH hs) → Below w.heap.size w w' → WayPost es key w (.returned (.tuple #[.agg (encR (.slice sa n sc) N).toArray, .int .i64 0])) w') := by
    intro w' sa sc n N hs e1 e2 e3 ho hb
    have f1 : wyH es key = hs := by rw [wyH, if_pos hE, e1]
    have f2 : wyN es key = N := by rw [wyN, if_pos hE, e2]
    refine ⟨sa, sc, ?_, ?_, hb⟩
    · rw [f1, f2, hE, e3]
    · rw [f1, e3]
      exact ho
  have HST := hidden (WaySt.start (es := es) key hkeys)
  obtain ⟨a, cap, rfl, _, _, _⟩ := hv
  obtain ⟨fp, hup⟩ := u_proof
  have HUP := hidden hup
  obtain ⟨fn, hun⟩ := u_node
  have HUN := hidden hun
  obtain ⟨Z, hZ⟩ : ∃ Z : List Int, Z = List.replicate 129 0 := ⟨_, rfl⟩
  have HZ := hidden hZ
  have HZP : Hid (∀ w, (zeroValue 60).run Tryd.prog w = .ok (.agg (encR (.slice none 0 0) Z).toArray) w) := by rw [hZ]; exact zero_proof
  have HSz : Hid (∀ s N, N.length = 129 → (Tryd.prog.info? 60).map (·.size) = some (encR s N).toArray.size ∧ (encR (.slice none 0 0) Z).toArray.size = (encR s N).toArray.size) := fun s N hN => ⟨encR_sz _ N hN, by simp [encR, hN, hZ]⟩
  have HZL : Hid (Z.length = 129) := by rw [hZ]; rfl
  clear hE hup hkey hkeys hL hun hZ
  go_enter Tryd.func27, Tryd.ntmps27
  go_wp2_with (first
    | ((with_reducible refine at_bxd 3 ?_); refine wpList_bx _ rfl _ _ rfl _ rfl ?_; intro w1 g3 hg3 hl3 B3 b1)
    | ((with_reducible refine at_ald 4 ?_); refine wpList_al _ rfl _ rfl _ HZP.out ?_; intro w2 g4 hg4 hl4 B4 b2; have c2 := grow_trans b1 b2; have D3 := B3.grow b2)
    | (go_at_call 52; refine (HLv.out _ c2).mono ?_; rintro e w3 ⟨x, ls0, rfl, p1, p2, p3, b3⟩; have P1 := hidden p1; obtain ⟨xa, xc, rfl, _, _⟩ := p1; have P2 := hidden p2; have P3 := hidden p3; clear p2 p3; have D4 := B4.grow b3; have E3 := D3.grow b3; have c3 := grow_trans c2 b3; obtain ⟨m0, hm0⟩ : ∃ m0, m0 = ls0.length := ⟨_, rfl⟩; rw [← hm0]; rw [← hm0] at P1; have HM0 := hidden hm0; clear hm0)
    | ((with_reducible refine at_ald 8 ?_); refine wpList_al _ rfl _ rfl _ HZP.out ?_; intro w4 g8 hg8 hl8 B8 b4))
  have HB8 := hidden B8
  have HB4 := hidden b4
  have HE3 := hidden E3
  have HD4 := hidden D4
  have HG8 := hidden hg8
  have HC3 := hidden c3
  have HG4 : Hid (w.heap.size ≤ g4) := Nat.le_trans b1.size hg4
  clear B8 b4 E3 D4 c3 b3 D3 c2 b2 b1 B3 B4 hg3 hl3 hg4 hl4 hl8 hg8 w1 w2
  go_loopw [6, 9] (fun l i wr => ∃ (d m : Nat) (la : Option Addr) (lc : Nat) (ed : List Ent) (ls : List Lf) (hs : List (List Int)) (sa : Option Addr) (sc : Nat), d ≤ 256 ∧ m ≤ 4096 ∧ l = .slice la m lc ∧ i = .int .i64 d ∧ Hid (ls.length = m) ∧ Hid (LvAt w3 (.slice la m lc) ls) ∧ Hid (Rise ls ∧ Same ls d ∧ ls.Perm (ed.map mkLf)) ∧ Hid (WaySt es key d ed hs) ∧ Hid (wr.ownsRow w3.heap.size 25 32 (.slice sa d sc) d (flatH hs)) ∧ Hid (Blk wr g8 60 (encR (.slice sa d sc) Z).toArray) ∧ Hid (Below w3.heap.size w3 wr)) (fun _ i _ => 256 - (intOf i).toNat)
  case atStart => exact ⟨0, m0, xa, xc, es, ls0, [], none, 0, by omega, by rw [HM0.out, P2.out.length_eq, List.length_map]; exact hn, rfl, rfl, HM0.out.symm, P1, ⟨P3.out, fun _ _ _ _ j hj => by omega, P2.out⟩, HST, World.ownsRow_nil _ _ _ _, HB8, HB4⟩
  case round =>
    obtain ⟨d, m, la, lc, ed, ls, hs, sa, sc, hd, hm, rfl, rfl, hml, hlv, hls, hst, hown, hblk, hbw⟩ := hrel
    by_cases hgt : 1 < m
    · have hd256 : d < 256 := by
        by_cases q : d = 256
        · subst q
          have := hls.out.1.few hls.out.2.1
          have := hml.out
          omega
        · omega
      have z1 : (1 : Int) < (m : Int) := by omega
      have hedl : ed.length = m := by rw [← hml.out, hls.out.2.2.length_eq, List.length_map]
      have HPa : Hid (Calls Tryd.prog 56 #[.slice la m lc, .int .i64 d] wr fun e w' => ∃ a0 m0 c0 a1 m1 c1, e = .returned (.tuple #[.slice a0 m0 c0, .slice a1 m1 c1]) ∧ LvAt w3 (.slice a0 m0 c0) (sdL ls d 0) ∧ LvAt w3 (.slice a1 m1 c1) (sdL ls d 1) ∧ Below wr.heap.size wr w') := by
        obtain ⟨la', lc', e, hcap, hr⟩ := hlv.out
        have hlm := hml.out
        injection e with e1 e2 e3
        subst e1
        subst e3
        obtain ⟨g, off, rfl, hrr⟩ := hr (by omega)
        have h := part_in g off lc d ls wr hd256 (by omega) hcap hls.out.1 hls.out.2.1 (fun i hi => range_grow (hrr i hi) hbw.out)
        rw [hlm] at h
        refine h.mono ?_
        rintro e w' ⟨a0, m0, c0, a1, m1, c1, rfl, hx, hb⟩
        exact ⟨a0, m0, c0, a1, m1, c1, rfl, (hx w3 hrr).1, (hx w3 hrr).2, hb⟩
      have HRo : Hid (∀ c a1 m1 c1, LvAt w3 (.slice a1 m1 c1) (sdL ls d c) → ∀ w', Below w3.heap.size w3 w' → Calls Tryd.prog 54 #[.slice a1 m1 c1, .int .i64 ((d : Int) + 1)] w' fun e w'' => e = .returned (.agg (B (rt (255 - d) (d + 1) (sideOf ed d c)))) ∧ Below w'.heap.size w' w'') := by
        intro c a1 m1 c1 h1 w' hb
        have hp := sdL_perm hd256 hst.out.keys hls.out.2.2 c
        have h4 := rootAt_any (255 - d) (d + 1) (sdL ls d c) (.slice a1 m1 c1) w' (by omega) (Nat.le_trans (List.length_filter_le _ _) (by rw [hml.out]; exact hm)) (hls.out.1.side d c) (hls.out.2.1.side c) (h1.grow hb) ((HL.out.grow HC3.out).grow hb)
        rw [rtL_perm _ _ _ _ hp, rt_map _ _ (sideOf ed d c) (by omega) (fun e he => hst.out.keys e (List.mem_filter.1 he).1)] at h4
        simpa using h4
      have HNX : Hid (∀ c, Rise (sdL ls d c) ∧ Same (sdL ls d c) (d + 1) ∧ (sdL ls d c).Perm ((sideOf ed d c).map mkLf) ∧ (sdL ls d c).length ≤ 4096) := fun c => ⟨hls.out.1.side d c, hls.out.2.1.side c, sdL_perm hd256 hst.out.keys hls.out.2.2 c, Nat.le_trans (List.length_filter_le _ _) (by rw [hml.out]; exact hm)⟩
      have hstep := hst.out.step (by omega) hd256
      have HBit : Hid (∀ w', Calls Tryd.prog 37 #[.agg (B key), .int .i64 d] w' fun e w'' => e = .returned (.int .i64 (kb key d)) ∧ Below w'.heap.size w' w'') := fun w' => by
        have := bit_any key d w' HKEY.out
        rwa [kbi_in _ _ hd256] at this
      have hb2 := kb_two key d
      have HK3 := hidden (HE3.out.grow hbw.out)
      have hw : IntKind.i64.wrap ((d : Int) + 1) = (d : Int) + 1 := by rw [IntKind.wrap_i64]; omega
      obtain ⟨β, hβ⟩ : ∃ β, β = kb key d := ⟨_, rfl⟩
      rw [← hβ] at HBit hstep hb2
      have hbo := hbw.out
      have hoo := hown.out
      have hbb := hblk.out
      have HOO := hidden hoo
      have HBB := hidden hbb
      have HBO := hidden hbo
      clear hml hlv hls hst hown hblk hbw hedl hβ hbo hoo hbb
      rcases hb2 with hb2 | hb2
      · subst hb2
        have e10 : (1 : Int) - 0 = 1 := by omega
        rw [e10] at hstep
        obtain ⟨D, hD⟩ : ∃ D, D = rt (255 - d) (d + 1) (sideOf ed d 1) := ⟨_, rfl⟩
        have HDK : Hid (D.length = 32 ∧ Bytes D) := by rw [hD]; exact rt_len _ _ _
        have HRD := hidden (HRo.out 1)
        have HNM := hidden (HNX.out 0)
        rw [← hD] at HRD hstep
        have HSTEP := hidden hstep
        clear hstep hD HRo e10 HNX
        go_wp2_with (first
          | (go_at_call 56; refine HPa.out.mono ?_; rintro e x1 ⟨a0, m0, c0, a1, m1, c1, rfl, p0, p1, q1⟩; have HP0 := hidden p0; have HP1 := hidden p1; clear p0 p1; have HK4 := hidden (HK3.out.grow q1); have HR1 := hidden (HRD.out _ _ _ HP1.out))
          | ((with_reducible refine at_ldd 32 3 ?_); refine wpList_ld _ rfl _ _ rfl g3 _ rfl HK4.out _ _ Tryd.underlying24 HKZ.out ?_)
          | (go_at_call 37; refine (HBit.out _).mono ?_; rintro e x2 ⟨rfl, q2⟩))
        have d0 : Below wr.heap.size wr x2.drew := grow_trans q1 (grow_trans q2 (Below.refl _ _).drew)
        have HS : Hid (∀ w', Below wr.heap.size wr w' → Blk w' g8 60 (encR (.slice sa d sc) Z).toArray) := fun w' q => HBB.out.grow q
        refine wp_region_last (S := fun w' => Blk w' g8 60 (encR (.slice sa d sc) Z).toArray) 9 (by kernel_rfl) (HS.out _ d0) (fun hHeld => ?_)
        refine wpAnyL_take (i := 0) (v := .pointer (some ⟨g8, 0, none⟩)) rfl (by kernel_rfl) (by kernel_rfl) (by kernel_rfl) (by kernel_rfl) (by kernel_rfl) (fun _ _ _ h => h) (Or.inl ⟨by rfl, fun w hS => by go_simp⟩) hHeld ?_
        simp only [Act.put, List.getElem_toArray, List.getElem_cons_zero, List.setIfInBounds_toArray, List.set_cons_zero, List.set_cons_succ]
        refine wpAnyL_take (i := 1) (v := .slice sa d sc) rfl (by kernel_rfl) (by kernel_rfl) (by kernel_rfl) (by kernel_rfl) (by kernel_rfl) (fun _ _ _ h => h) (Or.inl ⟨by rfl, fun w hS => by (have s1 := proof_side hS; go_simp)⟩) hHeld ?_
        simp only [Act.put, List.getElem_toArray, List.getElem_cons_zero, List.getElem_cons_succ, List.setIfInBounds_toArray, List.set_cons_zero, List.set_cons_succ]
        refine wpAnyL_take (i := 2) (v := .slice a1 m1 c1) rfl (by kernel_rfl) (by kernel_rfl) (by kernel_rfl) (by kernel_rfl) (by kernel_rfl) (fun _ _ _ h => h) (Or.inl ⟨by rfl, fun w hS => by go_simp⟩) hHeld ?_
        simp only [Act.put, List.getElem_toArray, List.getElem_cons_zero, List.getElem_cons_succ, List.setIfInBounds_toArray, List.set_cons_zero, List.set_cons_succ]
        refine wpAnyL_take (i := 3) (v := .int .i64 d) rfl (by kernel_rfl) (by kernel_rfl) (by kernel_rfl) (by kernel_rfl) (by kernel_rfl) (fun _ _ _ h => h) (Or.inl ⟨by rfl, fun w hS => by go_simp⟩) hHeld ?_
        simp only [Act.put, List.getElem_toArray, List.getElem_cons_zero, List.getElem_cons_succ, List.setIfInBounds_toArray, List.set_cons_zero, List.set_cons_succ]
        refine wpAnyL_take (i := 4) (v := .int .i64 ((d : Int) + 1)) rfl (by kernel_rfl) (by kernel_rfl) (by kernel_rfl) (by kernel_rfl) (by kernel_rfl) (fun _ _ _ h => h) (Or.inl ⟨by rfl, fun w hS => by go_simp⟩) hHeld ?_
        simp only [Act.put, List.getElem_toArray, List.getElem_cons_zero, List.getElem_cons_succ, List.setIfInBounds_toArray, List.set_cons_zero, List.set_cons_succ]
        refine wpAnyL_one (i := 5) rfl (by kernel_rfl) (fun KQ hK => ?_)
        go_simp
        refine (HR1.out _ (grow_trans HBO.out (grow_trans q1 (grow_trans q2 (Below.refl _ _).drew)))).mono ?_
        rintro e x3 ⟨rfl, a3⟩
        have d3 := grow_trans d0 a3
        have o3 := ownsH_below HOO.out d3
        refine hK.out _ _ (HS.out _ d3) (fun hHeld => ?_)
        clear hK KQ
        refine wpAnyL_one (i := 6) rfl (by kernel_rfl) (fun KQ hK => ?_)
        have oA := o3.alloc (.cells (B D) 25)
        have dA := grow_trans d3 (grow_alloc x3 (.cells (B D) 25))
        refine step_bsh _ rfl _ rfl D rfl HDK.out.1 ?_
        refine hK.out _ _ (HS.out _ dA) (fun hHeld => ?_)
        clear hK KQ
        refine wpAnyL_one (i := 7) rfl (by kernel_rfl) (fun KQ hK => ?_)
        refine step_appH _ rfl _ _ rfl w3.heap.size _ d (flatH hs) oA rfl x3.heap.size D rfl (Blk.new _ _ _) HDK.out.1 (by omega) (Nat.le_trans (Nat.le_trans HBO.out.size d3.size) (by simp)) ?_
        intro v5 x5 ho5 hg5
        have nb := own_ne oA (HS.out _ dA)
        refine hK.out _ _ ((HS.out _ dA).keptO hg5 nb) (fun hHeld => ?_)
        clear hK KQ
        refine wpAnyL_take (i := 8) (v := .pointer (some ⟨g8, 0, none⟩)) rfl (by kernel_rfl) (by kernel_rfl) (by kernel_rfl) (by kernel_rfl) (by kernel_rfl) (fun _ _ _ h => h) (Or.inl ⟨by rfl, fun w hS => by go_simp⟩) hHeld ?_
        simp only [Act.put, List.getElem_toArray, List.getElem_cons_zero, List.getElem_cons_succ, List.setIfInBounds_toArray, List.set_cons_zero, List.set_cons_succ]
        have hB5 := hHeld
        have hcell := proof_side hB5
        have hfr := hB5.frozen 0
        obtain ⟨sa5, sc5, rfl⟩ := own_slice ho5
        refine wpAnyL_last rfl (by kernel_rfl) (by kernel_rfl) (fun KQ hK => ?_)
        go_simp
        
        refine hK.out _ _ ?_
        clear hK KQ
        have hB6 := blk_side hB5 (.slice sa5 (d + 1) sc5)
        have gr6 := grown_setCell x5 g8 0 (.slice sa5 (d + 1) sc5)
        have ho6 := ho5.kept gr6 (.inr (fun e => own_ne ho5 hB5 e.symm))
        have hb5 : Below w3.heap.size w3 x5 := below_ownH (grow_trans HBO.out dA) oA (Nat.le_refl _) hg5
        have hb6 := below_row hb5 gr6 HG8.out
        rw [← flatH_snoc] at ho6
        have HF6 := hidden (And.intro ho6 (And.intro hB6 hb6))
        generalize x5.setCell ⟨g8, 0, none⟩ (.slice sa5 (d + 1) sc5) = x6 at *
        clear hB5 hcell hfr ho5 hg5 nb hB6 gr6 ho6 hb5 hb6 o3 oA dA hHeld HS
        have hm0 : m0 = (sdL ls d 0).length := by
          obtain ⟨_, _, e, _⟩ := HP0.out
          injection e
        have HMM := hidden hm0
        clear hm0
        go_wp2_with fail
        exact ⟨⟨d + 1, m0, a0, c0, sideOf ed d 0, sdL ls d 0, hs ++ [D], sa5, sc5, by omega, by rw [HMM.out]; exact HNM.out.2.2.2, rfl, by go_num, HMM.out.symm, HP0, ⟨HNM.out.1, HNM.out.2.1, HNM.out.2.2.1⟩, HSTEP, HF6.out.1, HF6.out.2.1, HF6.out.2.2⟩, by simp [intOf]; omega⟩
      · subst hb2
        have e10 : (1 : Int) - 1 = 0 := by omega
        rw [e10] at hstep
        obtain ⟨D, hD⟩ : ∃ D, D = rt (255 - d) (d + 1) (sideOf ed d 0) := ⟨_, rfl⟩
        have HDK : Hid (D.length = 32 ∧ Bytes D) := by rw [hD]; exact rt_len _ _ _
        have HRD := hidden (HRo.out 0)
        have HNM := hidden (HNX.out 1)
        rw [← hD] at HRD hstep
        have HSTEP := hidden hstep
        clear hstep hD HRo e10 HNX
        go_wp2_with (first
          | (go_at_call 56; refine HPa.out.mono ?_; rintro e x1 ⟨a0, m0, c0, a1, m1, c1, rfl, p0, p1, q1⟩; have HP0 := hidden p0; have HP1 := hidden p1; clear p0 p1; have HK4 := hidden (HK3.out.grow q1); have HR1 := hidden (HRD.out _ _ _ HP0.out))
          | ((with_reducible refine at_ldd 32 3 ?_); refine wpList_ld _ rfl _ _ rfl g3 _ rfl HK4.out _ _ Tryd.underlying24 HKZ.out ?_)
          | (go_at_call 37; refine (HBit.out _).mono ?_; rintro e x2 ⟨rfl, q2⟩))
        have d0 : Below wr.heap.size wr x2.drew := grow_trans q1 (grow_trans q2 (Below.refl _ _).drew)
        have HS : Hid (∀ w', Below wr.heap.size wr w' → Blk w' g8 60 (encR (.slice sa d sc) Z).toArray) := fun w' q => HBB.out.grow q
        refine wp_region_last (S := fun w' => Blk w' g8 60 (encR (.slice sa d sc) Z).toArray) 9 (by kernel_rfl) (HS.out _ d0) (fun hHeld => ?_)
        refine wpAnyL_take (i := 0) (v := .pointer (some ⟨g8, 0, none⟩)) rfl (by kernel_rfl) (by kernel_rfl) (by kernel_rfl) (by kernel_rfl) (by kernel_rfl) (fun _ _ _ h => h) (Or.inl ⟨by rfl, fun w hS => by go_simp⟩) hHeld ?_
        simp only [Act.put, List.getElem_toArray, List.getElem_cons_zero, List.setIfInBounds_toArray, List.set_cons_zero, List.set_cons_succ]
        refine wpAnyL_take (i := 1) (v := .slice sa d sc) rfl (by kernel_rfl) (by kernel_rfl) (by kernel_rfl) (by kernel_rfl) (by kernel_rfl) (fun _ _ _ h => h) (Or.inl ⟨by rfl, fun w hS => by (have s1 := proof_side hS; go_simp)⟩) hHeld ?_
        simp only [Act.put, List.getElem_toArray, List.getElem_cons_zero, List.getElem_cons_succ, List.setIfInBounds_toArray, List.set_cons_zero, List.set_cons_succ]
        refine wpAnyL_take (i := 2) (v := .slice a0 m0 c0) rfl (by kernel_rfl) (by kernel_rfl) (by kernel_rfl) (by kernel_rfl) (by kernel_rfl) (fun _ _ _ h => h) (Or.inl ⟨by rfl, fun w hS => by go_simp⟩) hHeld ?_
        simp only [Act.put, List.getElem_toArray, List.getElem_cons_zero, List.getElem_cons_succ, List.setIfInBounds_toArray, List.set_cons_zero, List.set_cons_succ]
        refine wpAnyL_take (i := 3) (v := .int .i64 d) rfl (by kernel_rfl) (by kernel_rfl) (by kernel_rfl) (by kernel_rfl) (by kernel_rfl) (fun _ _ _ h => h) (Or.inl ⟨by rfl, fun w hS => by go_simp⟩) hHeld ?_
        simp only [Act.put, List.getElem_toArray, List.getElem_cons_zero, List.getElem_cons_succ, List.setIfInBounds_toArray, List.set_cons_zero, List.set_cons_succ]
        refine wpAnyL_take (i := 4) (v := .int .i64 ((d : Int) + 1)) rfl (by kernel_rfl) (by kernel_rfl) (by kernel_rfl) (by kernel_rfl) (by kernel_rfl) (fun _ _ _ h => h) (Or.inl ⟨by rfl, fun w hS => by go_simp⟩) hHeld ?_
        simp only [Act.put, List.getElem_toArray, List.getElem_cons_zero, List.getElem_cons_succ, List.setIfInBounds_toArray, List.set_cons_zero, List.set_cons_succ]
        refine wpAnyL_one (i := 5) rfl (by kernel_rfl) (fun KQ hK => ?_)
        go_simp
        refine (HR1.out _ (grow_trans HBO.out (grow_trans q1 (grow_trans q2 (Below.refl _ _).drew)))).mono ?_
        rintro e x3 ⟨rfl, a3⟩
        have d3 := grow_trans d0 a3
        have o3 := ownsH_below HOO.out d3
        refine hK.out _ _ (HS.out _ d3) (fun hHeld => ?_)
        clear hK KQ
        refine wpAnyL_one (i := 6) rfl (by kernel_rfl) (fun KQ hK => ?_)
        have oA := o3.alloc (.cells (B D) 25)
        have dA := grow_trans d3 (grow_alloc x3 (.cells (B D) 25))
        refine step_bsh _ rfl _ rfl D rfl HDK.out.1 ?_
        refine hK.out _ _ (HS.out _ dA) (fun hHeld => ?_)
        clear hK KQ
        refine wpAnyL_one (i := 7) rfl (by kernel_rfl) (fun KQ hK => ?_)
        refine step_appH _ rfl _ _ rfl w3.heap.size _ d (flatH hs) oA rfl x3.heap.size D rfl (Blk.new _ _ _) HDK.out.1 (by omega) (Nat.le_trans (Nat.le_trans HBO.out.size d3.size) (by simp)) ?_
        intro v5 x5 ho5 hg5
        have nb := own_ne oA (HS.out _ dA)
        refine hK.out _ _ ((HS.out _ dA).keptO hg5 nb) (fun hHeld => ?_)
        clear hK KQ
        refine wpAnyL_take (i := 8) (v := .pointer (some ⟨g8, 0, none⟩)) rfl (by kernel_rfl) (by kernel_rfl) (by kernel_rfl) (by kernel_rfl) (by kernel_rfl) (fun _ _ _ h => h) (Or.inl ⟨by rfl, fun w hS => by go_simp⟩) hHeld ?_
        simp only [Act.put, List.getElem_toArray, List.getElem_cons_zero, List.getElem_cons_succ, List.setIfInBounds_toArray, List.set_cons_zero, List.set_cons_succ]
        have hB5 := hHeld
        have hcell := proof_side hB5
        have hfr := hB5.frozen 0
        obtain ⟨sa5, sc5, rfl⟩ := own_slice ho5
        refine wpAnyL_last rfl (by kernel_rfl) (by kernel_rfl) (fun KQ hK => ?_)
        go_simp
        
        refine hK.out _ _ ?_
        clear hK KQ
        have hB6 := blk_side hB5 (.slice sa5 (d + 1) sc5)
        have gr6 := grown_setCell x5 g8 0 (.slice sa5 (d + 1) sc5)
        have ho6 := ho5.kept gr6 (.inr (fun e => own_ne ho5 hB5 e.symm))
        have hb5 : Below w3.heap.size w3 x5 := below_ownH (grow_trans HBO.out dA) oA (Nat.le_refl _) hg5
        have hb6 := below_row hb5 gr6 HG8.out
        rw [← flatH_snoc] at ho6
        have HF6 := hidden (And.intro ho6 (And.intro hB6 hb6))
        generalize x5.setCell ⟨g8, 0, none⟩ (.slice sa5 (d + 1) sc5) = x6 at *
        clear hB5 hcell hfr ho5 hg5 nb hB6 gr6 ho6 hb5 hb6 o3 oA dA hHeld HS
        have hm1 : m1 = (sdL ls d 1).length := by
          obtain ⟨_, _, e, _⟩ := HP1.out
          injection e
        have HMM := hidden hm1
        clear hm1
        go_wp2_with fail
        exact ⟨⟨d + 1, m1, a1, c1, sideOf ed d 1, sdL ls d 1, hs ++ [D], sa5, sc5, by omega, by rw [HMM.out]; exact HNM.out.2.2.2, rfl, by go_num, HMM.out.symm, HP1, ⟨HNM.out.1, HNM.out.2.1, HNM.out.2.2.1⟩, HSTEP, HF6.out.1, HF6.out.2.1, HF6.out.2.2⟩, by simp [intOf]; omega⟩
    · have hle : ed.length ≤ 1 := by
        have h1 := hls.out.2.2.length_eq
        rw [List.length_map] at h1
        have := hml.out
        omega
      obtain ⟨f1, f2⟩ := hst.out.done hle
      have z1 : ¬ (1 : Int) < (m : Int) := by omega
      have hb4 := HD4.out.grow hbw.out
      have HC := hidden (grow_trans HC3.out hbw.out)
      have HO := hidden (own_base hown.out HC3.out.size)
      have n48 : g4 ≠ g8 := Nat.ne_of_lt (Nat.lt_of_lt_of_le HD4.out.lt HG8.out)
      have HHS := hidden hst.out.len
      have F1 := hidden f1
      have F2 := hidden f2
      have HB4' := hidden hb4
      have HBK := hidden hblk.out
      have HOW := hidden hown.out
      have HBW := hidden hbw.out
      clear f1 f2 hb4
      by_cases hm1 : m = 1
      · subst hm1
        obtain ⟨x, hx⟩ : ∃ x, ls = [x] := List.length_eq_one_iff.1 hml.out
        obtain ⟨e, he⟩ : ∃ e, ed = [e] := List.length_eq_one_iff.1 (by
          have h1 := hls.out.2.2.length_eq
          rw [List.length_map] at h1
          have := hml.out
          omega)
        have hxe : x = mkLf e := by
          have h1 := hls.out.2.2
          rw [hx, he] at h1
          simpa using List.singleton_perm_singleton.1 h1
        have hke := hst.out.keys e (by rw [he]; simp)
        obtain ⟨g, off, hla, hrr⟩ : ∃ g off, la = some ⟨g, off, none⟩ ∧ w3.rangeAt g off (encLf x) := by
          obtain ⟨la', lc', e1, _, hr⟩ := hlv.out
          injection e1 with e2 e3 e4
          subst e2
          obtain ⟨g, off, e5, hr⟩ := hr (by rw [hx]; simp)
          have := hr 0 (by rw [hx]; simp)
          rw [hx] at this
          exact ⟨g, off, e5, by simpa using this⟩
        subst hla
        obtain ⟨N, hN⟩ : ∃ N, N = x.ints := ⟨_, rfl⟩
        have HNE : Hid (N = endN (rst 256 0 es key)) := by
          show _ = _
          rw [F2.out, he, hN, hxe, Lf.ints, mkLf_key hke, mkLf_val hke]
          rfl
        have HNL : Hid (N.length = 129) := by rw [hN]; exact x.ints_length
        have HRR : Hid (wr.rangeAt g off (N.map (Value.int .u8))) := by rw [hN]; exact range_grow hrr hbw.out
        have HTH : Hid (wr.there g8 1 (B N).size) := HBK.out.there 1 _ (by rw [B_size, HNL.out]; simp [encR, HZL.out])
        have HIN : Hid ((Tryd.prog.info? 27).map (·.size) = some (N.map (Value.int .u8)).length) := by show _ = _; rw [List.length_map, HNL.out]; exact size_node
        have HIM : Hid ((Tryd.prog.info? 27).map (·.size) = some (B N).size) := by show _ = _; rw [B_size, HNL.out]; exact size_node
        have h8 := blk_end HBK.out N HZL.out HNL.out
        have gr8 := grown_setCells g8 (N.map (Value.int .u8)) 1 wr
        have HK8 := hidden (And.intro h8 (And.intro (HB4'.out.kept gr8 n48) (And.intro (HO.out.kept gr8 (.inr (fun e => own_ne HOW.out HBK.out e.symm))) (below_row HC.out gr8 (Nat.le_trans HC3.out.size HG8.out)))))
        have HBT : Hid ((B N).toList = N.map (Value.int .u8)) := B_toList N
        clear h8 gr8 hxe hN hx he hke hrr hls hst hml hlv hown hblk hbw hle hgt
        go_wp2_with (first
          | ((with_reducible refine at_ldd 53 52 ?_); refine wpList_load_mid rfl 27 _ rfl g off rfl (N.map (Value.int .u8)) _ HRR.out HUN.out rfl HIN.out ?_)
          | ((with_reducible refine at_st 54 ?_); refine wpList_stm _ rfl _ _ _ rfl g8 1 (B N) rfl rfl HTH.out HIM.out (B_one _) ?_; rw [HBT.out]; generalize wr.setCells g8 1 (N.map (Value.int .u8)) = x7 at *)
          | ((with_reducible refine at_ldd 55 8 ?_); refine wpList_lds _ rfl _ _ rfl g8 _ _ rfl HK8.out.1 HUP.out (HSz.out _ N HNL.out).1 ?_)
          | ((with_reducible refine at_st 4 ?_); refine wpList_sto _ rfl _ _ _ rfl g4 _ (encR (.slice sa d sc) N).toArray rfl rfl HK8.out.2.1 (HSz.out _ N HNL.out).1 (HSz.out _ N HNL.out).2 (encR_one _ _ _ _) ?_; intro x8 B9 r9))
        have ho9 := HK8.out.2.2.1.kept r9 (.inr (fun e => own_ne HK8.out.2.2.1 HK8.out.2.1 e.symm))
        exact bodyPost_ret (v := .tuple #[.agg (encR (.slice sa d sc) N).toArray, .int .i64 0]) (results_agg_tmp rfl _ _ g4 _ _ rfl rfl B9 HUP.out (HSz.out _ N HNL.out).1) rfl (HPost.out _ _ _ _ _ hs F1.out HNE.out HHS.out ho9 (below_row HK8.out.2.2.2 r9 HG4.out))
      · have hm0' : m = 0 := by omega
        subst hm0'
        have he : ed = [] := List.eq_nil_of_length_eq_zero (by
          have h1 := hls.out.2.2.length_eq
          rw [List.length_map] at h1
          have := hml.out
          omega)
        have HNE : Hid (Z = endN (rst 256 0 es key)) := by
          show _ = _
          rw [F2.out, he, HZ.out]
          rfl
        clear he hls hst hml hlv hown hblk hbw hle hgt hm1
        go_wp2_with (first
          | ((with_reducible refine at_ldd 55 8 ?_); refine wpList_lds _ rfl _ _ rfl g8 _ _ rfl HBK.out HUP.out (HSz.out _ Z HZL.out).1 ?_)
          | ((with_reducible refine at_st 4 ?_); refine wpList_sto _ rfl _ _ _ rfl g4 _ (encR (.slice sa d sc) Z).toArray rfl rfl HB4'.out (HSz.out _ Z HZL.out).1 (HSz.out _ Z HZL.out).2 (encR_one _ _ _ _) ?_; intro x8 B9 r9))
        have ho9 := HO.out.kept r9 (.inr (fun e => own_ne HO.out HB4'.out e.symm))
        exact bodyPost_ret (v := .tuple #[.agg (encR (.slice sa d sc) Z).toArray, .int .i64 0]) (results_agg_tmp rfl _ _ g4 _ _ rfl rfl B9 HUP.out (HSz.out _ Z HZL.out).1) rfl (HPost.out _ _ _ _ _ hs F1.out HNE.out HHS.out ho9 (below_row HC.out r9 HG4.out))

theorem way_any (v : Value) (V : Nat → Value) (es : List Ent) (key : List Int) (w : World) (hv : PrAt w v V es) (hn : es.length ≤ 140737488355328) (hkey : Key key) (hL : Laid w) :
    Calls Tryd.prog 27 #[v, .agg (B key)] w (WayPost es key w) := by
  by_cases hE : errB es = 0
  · have hl : es.length ≤ 4096 := by
      by_cases h : 4096 < es.length
      · rw [errB, if_pos h] at hE
        omega
      · omega
    exact way_good v V es key w hv hl hE hkey hL
  · exact way_bad v V es key w hv hn hE

end Go.Proofs.YtjcklpdifanjlaaDoor
