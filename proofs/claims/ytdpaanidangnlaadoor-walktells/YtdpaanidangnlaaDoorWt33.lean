/- What walk tells of a root and a key beside what the document tells of the entries; the calls at any handle. -/
import Derived.Test.YtdpaanidangnlaaDoorWt32
import Derived.Test.YtdpaanidangnlaaDoorWt31
import Derived.Test.YtdpaanidangnlaaDoorWt30
namespace Go.Proofs.YtdpaanidangnlaaDoor
set_option maxRecDepth 20000
open Go.RowKit

theorem errB_few {es : List Ent} (h : es.length ≤ 12) (ha : Apart1 es) (hl : ∀ e ∈ es, e.2.length ≤ 1024) : errB es = 0 := by
  rw [errB, if_neg (by omega)]
  exact lsE_of [] es hl ha (fun e _ => by simp)

/-- What is told of a key in a tree, and what the entries say. -/
structure WkEq (cs : List (Nat × Ce)) (h : Nat) (T : Tre) (es : List Ent) (K : List Int) (kd : Int) (a b : List Int) : Prop where
  sides : (T.oth K).map (sdD cs) = wyH es K
  fin : endN (T.efin K) = wyN es K
  nd_ : endN (T.efin K) = nd kd a b z32 z32
  ok : Nd kd a b z32 z32
  fnd : fnd (T.efin K) K = rfnd es K
  kind : (cat cs (T.fin K h : Int)).kind = kd
  zero : (T.fin K h = 0 ∧ kd = 0) ∨ (T.fin K h ≠ 0 ∧ kd = 1)
  len : (T.hs K h).length = (wyH es K).length
  few : (T.hs K h).length ≤ 256

theorem wk_eq {cs : List (Nat × Ce)} (W : Wf cs []) {h : Nat} {T : Tre} {es : List Ent} (hT : IsT cs h T) (hp : T.ents.Perm es) (hd : (sdC cs h).kind = 2 → (sdC cs h).dp = 0) (h12 : es.length ≤ 12) (ha : Apart1 es) (hl : ∀ e ∈ es, e.2.length ≤ 1024) (K : List Int) : ∃ kd a b, WkEq cs h T es K kd a b := by
  have hE := errB_few h12 ha hl
  have ok := tree_ok W T h hT
  have hkeys : ∀ e ∈ es, Key e.1 := fun e he => (ok.ent e (hp.mem_iff.2 he)).1
  obtain ⟨t1, t2, t3⟩ := way_tree W K T h 0 hT hd (by omega)
  obtain ⟨p1, p2⟩ := way_perm K 256 0 T.ents es hp
  have hr1 := (up_way 256 0 es K rfl hkeys ha (fun e _ j hj => by omega)).1
  have hrst : T.efin K = rst 256 0 es K := by
    rw [t2]
    match hq : rst 256 0 es K, hr1, p2 with
    | [], _, p2 => exact List.perm_nil.1 p2
    | [e], _, p2 => exact List.perm_singleton.1 p2
    | _ :: _ :: _, hr1, _ => simp at hr1
  have hsd : (T.oth K).map (sdD cs) = wyH es K := by rw [t1, wyH, if_pos hE]; exact p1
  have hfi : endN (T.efin K) = wyN es K := by rw [wyN, if_pos hE, hrst]
  have hlen : (T.hs K h).length = (wyH es K).length := by rw [Tre.hs_oth, ← hsd, List.length_map]
  have hfd : fnd (T.efin K) K = rfnd es K := by
    by_cases q : ∃ e ∈ es, e.1 = K
    · obtain ⟨e, he, hk⟩ := q
      rw [efin_key W K T h hT e (hp.mem_iff.2 he) hk]
      obtain ⟨i, hi, hei⟩ := List.getElem_of_mem he
      have hg : es.getD i e00 = e := by simp [List.getD, hi, hei]
      rw [rfnd_hit es K i hi (fun j hj hjk => ?_) (by rw [hg]; exact hk), hg]
      · simp [Go.Proofs.YtdpaanidangnlaaDoor.fnd, hk]
      · have hj' : j < es.length := by omega
        have := List.pairwise_iff_getElem.1 ha j i hj' hi hj
        apply this
        rw [hei, hk]
        simpa [List.getD, hj'] using hjk
    · have hm : rfnd es K = ([], false) := rfnd_miss es K (fun j hj e => q ⟨es.getD j e00, by simp [List.getD, hj], e⟩)
      rw [hm]
      rcases fin_is K T h hT with ⟨_, e⟩ | ⟨k, b, e, _⟩
      · rw [e]; rfl
      · rw [e]
        have hne : k ≠ K := fun hk => q ⟨(k, b), hp.mem_iff.1 (efin_mem K T (k, b) (by rw [e]; simp)), hk⟩
        simp [Go.Proofs.YtdpaanidangnlaaDoor.fnd, hne]
  have h256 : (T.hs K h).length ≤ 256 := by rw [Tre.hs_oth]; omega
  have z := z32_bytes
  rcases fin_is K T h hT with ⟨e1, e2⟩ | ⟨k, b, e2, h1, h2, h3, h4, h5⟩
  · exact ⟨0, z32, z32, hsd, hfi, by rw [e2]; rfl, ⟨by omega, by omega, rfl, rfl, rfl, rfl, z, z, z, z⟩, hfd, by rw [e1]; rfl, .inl ⟨e1, rfl⟩, hlen, h256⟩
  · have hkk : Key k := by rw [← h4]; exact (W.ok _).hk
    exact ⟨1, k, vaD b, hsd, hfi, by rw [e2]; rfl, ⟨by omega, by omega, hkk.1, dig_length _, rfl, rfl, hkk.2, dig_bytes _, z, z⟩, hfd, by rw [cat_is h1]; exact h3, .inr ⟨by omega, rfl⟩, hlen, h256⟩

/-- The root of a tree that was made from depth 0 on is one. -/
theorem bd_root {cs cs' : List (Nat × Ce)} {es : List Ent} {h : Nat} (b : Bd cs es 0 h cs') : vRt true (cot cs' h) (cat cs' h) h = 0 := by
  unfold vRt
  rw [if_pos rfl]
  by_cases h0 : h = 0
  · subst h0
    rfl
  · obtain ⟨_, _, o3, _⟩ := b.own h0
    rw [if_neg (by omega), if_neg (by rw [cot, if_pos (by omega), show ((h : Int) - 1).toNat = h - 1 by omega]; omega), cat_nat]
    rw [if_neg]
    intro q
    unfold vDp at q
    rw [if_pos rfl] at q
    split at q
    · next k =>
      rw [b.dp k] at q
      omega
    · omega

/-- A handle that is a root has a tree. -/
theorem root_tree {cs : List (Nat × Ce)} (W : Wf cs []) {h : Int} (he : vRt true (cot cs h) (cat cs h) h = 0) : ∃ (n : Nat) (T : Tre), h = (n : Int) ∧ IsT cs n T := by
  unfold vRt at he
  rw [if_pos rfl] at he
  by_cases h0 : h = 0
  · exact ⟨0, .emp, h0, rfl⟩
  · rw [if_neg h0] at he
    by_cases hc : cot cs h = 0
    · rw [if_pos hc] at he
      omega
    · obtain ⟨i, e, hi, _, _⟩ := cot_in (cs := cs) (h := h) (by omega)
      obtain ⟨T, hT⟩ := tree_ex W i hi
      exact ⟨i + 1, T, by omega, hT⟩

theorem find_odd {w : World} {v : Value} {cs : List (Nat × Ce)} (V : Vw w v true (cot cs) (cat cs)) (W : Wf cs []) (h : Int) (K : List Int) (hK : Key K) (E : Int) (hE : vRt true (cot cs h) (cat cs h) h = E) : Calls Tryd.prog 9 #[v, .int .i64 h, .agg (B K)] w fun e w' => ∃ v' b, e = .returned (.tuple #[v', .bool b, .int .i64 E]) ∧ Below w.heap.size w w' := by
  by_cases h0 : E = 0
  · subst h0
    obtain ⟨n, T, rfl, hT⟩ := root_tree W hE
    exact (find_any V W n T hT K hK hE).mono fun e w' ⟨v', sp, e1, _, e2⟩ => ⟨v', _, e1, e2⟩
  · exact (find_bad V h K hK E hE h0).mono fun e w' ⟨e1, e2⟩ => ⟨_, _, e1, e2⟩

theorem handles_odd {w : World} {v : Value} {cs : List (Nat × Ce)} (V : Vw w v true (cot cs) (cat cs)) (W : Wf cs []) (h : Int) (K : List Int) (hK : Key K) (E : Int) (hE : vRt true (cot cs h) (cat cs h) h = E) : Calls Tryd.prog 13 #[v, .int .i64 h, .agg (B K)] w fun e w' => ∃ v' b, e = .returned (.tuple #[v', .int .i64 b, .int .i64 E]) ∧ Below w.heap.size w w' := by
  by_cases h0 : E = 0
  · subst h0
    obtain ⟨n, T, rfl, hT⟩ := root_tree W hE
    exact (handles_any V W n T hT K hK hE).mono fun e w' ⟨a, c, e1, _, e2⟩ => ⟨_, _, e1, e2⟩
  · exact (handles_bad V h K E hE h0).mono fun e w' ⟨e1, e2⟩ => ⟨_, _, e1, e2⟩

theorem wdepth_odd {w : World} {v : Value} {cs : List (Nat × Ce)} (V : Vw w v true (cot cs) (cat cs)) (W : Wf cs []) (h : Int) (K : List Int) (hK : Key K) (E : Int) (hE : vRt true (cot cs h) (cat cs h) h = E) : Calls Tryd.prog 14 #[v, .int .i64 h, .agg (B K)] w fun e w' => ∃ b, e = .returned (.tuple #[.int .i64 b, .int .i64 E]) ∧ Below w.heap.size w w' := by
  by_cases h0 : E = 0
  · subst h0
    obtain ⟨n, T, rfl, hT⟩ := root_tree W hE
    exact (wdepth_any V W n T hT K hK hE).mono fun e w' ⟨e1, e2⟩ => ⟨_, e1, e2⟩
  · exact (wdepth_bad V h K hK E hE h0).mono fun e w' ⟨e1, e2⟩ => ⟨_, e1, e2⟩

theorem wway_odd {w : World} {v : Value} {cs : List (Nat × Ce)} (V : Vw w v true (cot cs) (cat cs)) (W : Wf cs []) (h : Int) (K : List Int) (hK : Key K) (E : Int) (hE : vRt true (cot cs h) (cat cs h) h = E) (hL : Laid w) : Calls Tryd.prog 11 #[v, .int .i64 h, .agg (B K)] w fun e w' => ∃ a n c N, e = .returned (.tuple #[.agg (encR (.slice a n c) N).toArray, .int .i64 E]) ∧ N.length = 129 ∧ Below w.heap.size w w' := by
  by_cases h0 : E = 0
  · subst h0
    obtain ⟨n, T, rfl, hT⟩ := root_tree W hE
    exact (wway_any V W n T hT K hK hE hL).mono fun e w' ⟨sa, sc, e1, _, e2⟩ => ⟨_, _, _, _, e1, by rw [← vNd_fin hT]; exact (vNd_ok V _).1, e2⟩
  · exact (wway_bad V h K hK E hE h0).mono fun e w' ⟨e1, e2⟩ => ⟨_, _, _, _, e1, rfl, e2⟩

end Go.Proofs.YtdpaanidangnlaaDoor

/- The document's side of entries, told with where it lies; entries in a list that is kept apart from some blocks. -/
namespace Go.Proofs.YtdpaanidangnlaaDoor
set_option maxRecDepth 20000
open Go.RowKit

def SideOwn (w0 : World) (es : List Ent) (d : Nat) (b : Int) (w : World) (e : Ending) (w' : World) : Prop :=
  ∃ v its, e = .returned v ∧ its.map (·.1) = sideOf es d b ∧ (∀ p ∈ its, Key p.1.1 ∧ Reads w0 p.2 p.1.2) ∧ w'.ownsRow w.heap.size 68 33 v its.length (flatP its) ∧ Below w.heap.size w w'

set_option maxRecDepth 100000 in
set_option maxHeartbeats 8000000 in
theorem refSide_own (w0 : World) (v : Value) (V : Nat → Value) (es : List Ent) (d : Nat) (b : Int) (w : World) (hv : PrAt w v V es) (hr0 : ∀ i, i < es.length → Reads w0 (V i) (es.getD i e00).2) (hn : es.length ≤ 4096) :
    Calls Tryd.prog 34 #[v, .int .i64 d, .int .i64 b] w (SideOwn w0 es d b w) := by
  have hkeys := hv.keys
  obtain ⟨a, cap, rfl, hcap, hc, hr⟩ := hv
  have HC := hidden hc
  have HR : Hid (∀ i, i < es.length → Key (es.getD i e00).1 ∧ Reads w0 (V i) (es.getD i e00).2) := fun i hi => ⟨(hr i hi).1, hr0 i hi⟩
  obtain ⟨n, hnn⟩ : ∃ n, n = es.length := ⟨_, rfl⟩
  have HN := hidden hnn
  have HPost : Hid (∀ w' s its, its.map (·.1) = sideOf es d b → (∀ p ∈ its, Key p.1.1 ∧ Reads w0 p.2 p.1.2) → w'.ownsRow w.heap.size 68 33 s its.length (flatP its) → Below w.heap.size w w' → SideOwn w0 es d b w (.returned s) w') := fun w' s its h1 h2 h3 h4 => ⟨s, its, rfl, h1, h2, h3, h4⟩
  rw [← hnn] at hn ⊢
  clear hc hr hcap hnn hkeys hr0
  go_enter Tryd.func34, Tryd.ntmps34
  go_wp2_with fail
  go_loopw [7, 8] (fun s i wr => ∃ (k m : Nat) (its : List (Ent × Value)) (sa : Option Addr) (sc : Nat), k ≤ n ∧ i = .int .i64 k ∧ s = .slice sa m sc ∧ Hid (its.length = m) ∧ Hid (its.map (·.1) = sideOf (es.take k) d b) ∧ Hid (∀ p ∈ its, Key p.1.1 ∧ Reads w0 p.2 p.1.2) ∧ Hid (wr.ownsRow w.heap.size 68 33 (.slice sa m sc) m (flatP its)) ∧ Below w.heap.size w wr) (fun _ i _ => n - (intOf i).toNat)
  case atStart => exact ⟨0, 0, [], none, 0, by omega, rfl, rfl, rfl, rfl, fun p hp => by simp at hp, World.ownsRow_nil _ _ _ _, Below.refl _ _⟩
  case round =>
    obtain ⟨k, m, its, sa, sc, hk, rfl, rfl, hml, him, hia, hio, hbw⟩ := hrel
    by_cases hlt : k < n
    · have hlt' : k < es.length := by rw [← HN.out]; exact hlt
      obtain ⟨g, off, rfl, hcc⟩ := HC.out (by omega)
      have z1 : (k : Int) < (n : Int) := by omega
      have z0 : (0 : Int) ≤ (k : Int) := by omega
      obtain ⟨hkey, hrd⟩ := HR.out k hlt'
      have hst := side_step es k d b hlt'
      have hil : m ≤ 4096 := by
        have := congrArg List.length him.out
        rw [List.length_map, hml.out] at this
        rw [this]
        exact Nat.le_trans (List.length_filter_le _ _) (by simp; omega)
      have HCC : Hid (∀ w', Below w.heap.size w w' → w'.rangeAt g (off + k * 33) (encP (es.getD k e00).1 (V k))) := fun w' hw' => rng_grow (hcc k hlt') hw'
      have HBit : Hid (∀ w', Calls Tryd.prog 32 #[.agg (B (es.getD k e00).1), .int .i64 d] w' fun e w'' => e = .returned (.int .i64 (kbi (es.getD k e00).1 d)) ∧ Below w'.heap.size w' w'') := fun w' => rbit_any _ d w' hkey
      have HV1 := hidden (reads_one hrd)
      have HKY := hidden hkey
      have HRD := hidden hrd
      obtain ⟨E, hE⟩ : ∃ E, E = es.getD k e00 := ⟨_, rfl⟩
      obtain ⟨β, hβ⟩ : ∃ β, β = kbi E.1 d := ⟨_, rfl⟩
      rw [← hE] at hst HCC HBit HKY HRD
      rw [← hβ] at hst HBit
      clear hcc hkey hrd hlt' hE hβ
      by_cases hbb : β = b
      · have hb2 : (β == b) = true := by simp [hbb]
        rw [hb2, if_pos rfl] at hst
        have HIM : Hid ((its ++ [(E, V k)]).map (·.1) = sideOf (es.take (k + 1)) d b) := by
          show _ = _
          rw [hst, List.map_append, him.out]
          rfl
        have HIA : Hid (∀ p ∈ its ++ [(E, V k)], Key p.1.1 ∧ Reads w0 p.2 p.1.2) := by
          intro p hp
          rcases List.mem_append.1 hp with hp | hp
          · exact hia.out p hp
          · obtain rfl : p = (E, V k) := by simpa using hp
            exact ⟨HKY.out, HRD.out⟩
        clear hst hbb
        go_wp2_with (first
          | ((with_reducible refine at_ldd 19 18 ?_); refine wpList_ldk _ rfl _ rfl g (off + k * 33) E.1 rfl (rng_key (HCC.out _ hbw)) HKY.out.1 ?_)
          | (go_at_call 32; refine (HBit.out _).mono ?_; rintro e w2 ⟨rfl, q2⟩; have c2 := grow_trans hbw q2; have HIO := hidden (ownsP_below hio.out q2))
          | ((with_reducible refine at_ldd 28 27 ?_); refine wpList_ldp _ rfl _ rfl g (off + k * 33) E.1 (V k) rfl (HCC.out _ c2) HKY.out.1 ?_)
          | (refine wpList_bsp _ rfl _ rfl E.1 (V k) rfl HKY.out.1 ?_)
          | (at_builtin; refine wpList_appP _ rfl _ _ rfl w.heap.size _ m (flatP its) (HIO.out.alloc _) rfl w2.heap.size E.1 (V k) rfl (Blk.new _ _ _) HKY.out.1 HV1.out hil (Nat.le_trans c2.size (by simp)) ?_; intro v' w3 ho3 hg3))
        have c3 := below_own (grow_trans c2 (grow_alloc _ _)) (HIO.out.alloc _) (Nat.le_refl _) hg3
        rw [← flatP_snoc its (E, V k)] at ho3
        obtain ⟨sa', sc', rfl⟩ : ∃ sa' sc', v' = .slice sa' (m + 1) sc' := by
          rcases ho3.2 with ⟨e, e2⟩ | ⟨g', cap', cur, e, _⟩
          · omega
          · exact ⟨_, _, e⟩
        exact ⟨⟨k + 1, m + 1, its ++ [(E, V k)], sa', sc', by omega, by go_num, rfl, by show _ = _; rw [List.length_append, hml.out]; rfl, HIM, HIA, ho3, c3⟩, by simp [intOf]; omega⟩
      · have hb2 : (β == b) = false := by simp [hbb]
        rw [hb2, if_neg (by simp), List.append_nil] at hst
        have HIM : Hid (its.map (·.1) = sideOf (es.take (k + 1)) d b) := by
          show _ = _
          rw [hst, him.out]
        clear hst hbb
        go_wp2_with (first
          | ((with_reducible refine at_ldd 19 18 ?_); refine wpList_ldk _ rfl _ rfl g (off + k * 33) E.1 rfl (rng_key (HCC.out _ hbw)) HKY.out.1 ?_)
          | (go_at_call 32; refine (HBit.out _).mono ?_; rintro e w2 ⟨rfl, q2⟩; have c2 := grow_trans hbw q2; have HIO := hidden (ownsP_below hio.out q2)))
        exact ⟨⟨k + 1, m, its, sa, sc, by omega, by go_num, rfl, hml, HIM, hia, HIO, c2⟩, by simp [intOf]; omega⟩
    · have hkn : k = es.length := by rw [← HN.out]; omega
      have z1 : ¬ (k : Int) < (n : Int) := by omega
      rw [hkn, List.take_length] at him
      clear hkn
      go_wp2
      go_ret
      exact HPost.out _ _ _ him.out hia.out (by rw [hml.out]; exact hio.out) hbw


/-- Entries whose list lies in a block of which R holds; their values were there in w0. -/
def PrO (w0 w : World) (R : Nat → Prop) (v : Value) (its : List (Ent × Value)) : Prop :=
  (∀ p ∈ its, Key p.1.1 ∧ Reads w0 p.2 p.1.2) ∧ ∃ a cap, v = .slice a its.length cap ∧ its.length ≤ cap ∧
    (0 < its.length → ∃ g off, a = some ⟨g, off, none⟩ ∧ R g ∧ g < w.heap.size ∧ ∀ i, i < its.length → w.rangeAt g (off + i * 33) (encP (its.getD i (e00, undef)).1.1 (its.getD i (e00, undef)).2))

theorem PrO.kept {w0 w w' : World} {R : Nat → Prop} {v : Value} {its : List (Ent × Value)} {row : Option Nat} (h : PrO w0 w R v its) (hg : w.grownBy w' row) (hR : ∀ g, R g → some g ≠ row) : PrO w0 w' R v its := by
  obtain ⟨h1, a, cap, e, h2, h3⟩ := h
  refine ⟨h1, a, cap, e, h2, fun hp => ?_⟩
  obtain ⟨g, off, ea, hr, hlt, hc⟩ := h3 hp
  exact ⟨g, off, ea, hr, Nat.lt_of_lt_of_le hlt hg.size, fun i hi j u hu => hg.cell (a := ⟨g, off + i * 33 + j, none⟩) (hc i hi j u hu) (hR g hr)⟩
theorem PrO.grow {w0 w w' : World} {R : Nat → Prop} {v : Value} {its : List (Ent × Value)} (h : PrO w0 w R v its) (hb : Below w.heap.size w w') : PrO w0 w' R v its := by
  obtain ⟨h1, a, cap, e, h2, h3⟩ := h
  refine ⟨h1, a, cap, e, h2, fun hp => ?_⟩
  obtain ⟨g, off, ea, hr, hlt, hc⟩ := h3 hp
  exact ⟨g, off, ea, hr, Nat.lt_of_lt_of_le hlt hb.size, fun i hi => rng_grow (hc i hi) hb⟩
theorem PrO.imp {w0 w : World} {R R' : Nat → Prop} {v : Value} {its : List (Ent × Value)} (h : PrO w0 w R v its) (hR : ∀ g, g < w.heap.size → R g → R' g) : PrO w0 w R' v its := by
  obtain ⟨h1, a, cap, e, h2, h3⟩ := h
  refine ⟨h1, a, cap, e, h2, fun hp => ?_⟩
  obtain ⟨g, off, ea, hr, hlt, hc⟩ := h3 hp
  exact ⟨g, off, ea, hR g hlt hr, hlt, hc⟩
theorem getD_fst (its : List (Ent × Value)) (i : Nat) (hi : i < its.length) : (its.map (·.1)).getD i e00 = its[i].1 ∧ its.getD i (e00, undef) = its[i] := ⟨by simp [List.getD, hi], by simp [List.getD, hi]⟩
theorem PrO.at {w0 w : World} {R : Nat → Prop} {v : Value} {its : List (Ent × Value)} (h : PrO w0 w R v its) (hb : Below w0.heap.size w0 w) : PrAt w v (fun i => (its.getD i (e00, undef)).2) (its.map (·.1)) ∧ ∀ i, i < (its.map (·.1)).length → Reads w0 (its.getD i (e00, undef)).2 ((its.map (·.1)).getD i e00).2 := by
  obtain ⟨h1, a, cap, e, h2, h3⟩ := h
  have hk : ∀ i, i < (its.map (·.1)).length → Key ((its.map (·.1)).getD i e00).1 ∧ Reads w0 (its.getD i (e00, undef)).2 ((its.map (·.1)).getD i e00).2 := by
    intro i hi
    rw [List.length_map] at hi
    obtain ⟨e1, e2⟩ := getD_fst its i hi
    rw [e1, e2]
    exact h1 _ (List.getElem_mem hi)
  refine ⟨⟨a, cap, by rw [List.length_map]; exact e, by rw [List.length_map]; exact h2, fun hp => ?_, fun i hi => ⟨(hk i hi).1, (hk i hi).2.grow hb⟩⟩, fun i hi => (hk i hi).2⟩
  rw [List.length_map] at hp ⊢
  obtain ⟨g, off, ea, _, _, hc⟩ := h3 hp
  refine ⟨g, off, ea, fun i hi => ?_⟩
  obtain ⟨e1, e2⟩ := getD_fst its i hi
  have := hc i hi
  rw [e2] at this
  rw [e1]
  simp only [e2]
  exact this
/-- Entries that came in. -/
theorem PrO.of {w : World} {v : Value} {V : Nat → Value} {es : List Ent} (h : PrAt w v V es) : ∃ its, its.map (·.1) = es ∧ PrO w w (fun _ => True) v its := by
  have hk := h
  obtain ⟨a, cap, e, h1, h2, h3⟩ := h
  refine ⟨(List.range es.length).map fun i => (es.getD i e00, V i), ?_, ?_⟩
  · apply List.ext_getElem (by simp)
    intro i q1 q2
    simp [List.getD, q2]
  · refine ⟨fun p hp => ?_, a, cap, by simpa using e, by simpa using h1, fun hp => ?_⟩
    · obtain ⟨i, hi, rfl⟩ := List.mem_map.1 hp
      exact h3 i (List.mem_range.1 hi)
    · have hp' : 0 < es.length := by simpa using hp
      obtain ⟨g, off, ea, hc⟩ := h2 hp'
      refine ⟨g, off, ea, trivial, ?_, fun i hi => ?_⟩
      · have := hc 0 hp' 32 (V 0) (by unfold encP; rw [List.getElem?_append_right (by rw [List.length_map, (h3 0 hp').1.1]; exact Nat.le_refl _), List.length_map, (h3 0 hp').1.1]; rfl)
        exact block_lt_of_cell this
      · have hi' : i < es.length := by simpa using hi
        have := hc i hi'
        simpa [List.getD, hi'] using this
/-- Entries of the call's own. -/
theorem PrO.own {w0 w : World} {base : Nat} {v : Value} {its : List (Ent × Value)} (h : w.ownsRow base 68 33 v its.length (flatP its)) (hk : ∀ p ∈ its, Key p.1.1 ∧ Reads w0 p.2 p.1.2) : PrO w0 w (fun g => base ≤ g) v its := by
  rcases h.2 with ⟨rfl, hn⟩ | ⟨g, cap, cur, rfl, hb, hg, hcap, _, hsz, htake⟩
  · exact ⟨hk, none, 0, by rw [hn], by omega, fun hp => by omega⟩
  · refine ⟨hk, _, cap, rfl, hcap, fun _ => ⟨g, 0, rfl, hb, (Array.getElem?_eq_some_iff.1 hg).1, fun i hi j u hu => ?_⟩⟩
    obtain ⟨e1, e2⟩ := getD_fst its i hi
    rw [e2] at hu
    have h1 := flatP_at its (fun p hp => (hk p hp).1.1) i hi j u hu
    rw [← htake] at h1
    have h2 : (cur.toList)[i * 33 + j]? = some u := by
      rw [List.getElem?_take] at h1
      split at h1
      · exact h1
      · cases h1
    rw [cell_of_row w g _ cur _ _ hg, Nat.zero_add]
    simpa using h2

end Go.Proofs.YtdpaanidangnlaaDoor

/- The document's Way, as a contract. -/
namespace Go.Proofs.YtdpaanidangnlaaDoor
set_option maxRecDepth 20000
open Go.RowKit

set_option maxHeartbeats 4000000 in
theorem rway_bad (v : Value) (V : Nat → Value) (es : List Ent) (key : List Int) (w : World) (hv : PrAt w v V es) (hn : es.length ≤ 140737488355328) (hE : errB es ≠ 0) :
    Calls Tryd.prog 12 #[v, .agg (B key)] w (WayPost es key w) := by
  have HLv : Hid (∀ w', Below w.heap.size w w' → Calls Tryd.prog 31 #[v] w' fun e w'' => e = .returned (.int .i64 (errB es)) ∧ Below w'.heap.size w' w'') := fun w' hb => refList_any v V es w' (hv.grow hb) hn
  have HPost : Hid (∀ w', Below w.heap.size w w' → WayPost es key w (.returned (.tuple #[.agg (encR (.slice none 0 0) (nd 0 z32 z32 z32 z32)).toArray, .int .i64 (errB es)])) w') := fun w' hb => by
    refine ⟨none, 0, ?_, ?_, hb⟩
    · rw [wyH, wyN, if_neg hE, if_neg hE]
      rfl
    · rw [wyH, if_neg hE]
      exact World.ownsRow_nil _ _ _ _
  obtain ⟨a, cap, rfl, _, _, _⟩ := hv
  obtain ⟨E, hEE⟩ : ∃ E, E = errB es := ⟨_, rfl⟩
  rw [← hEE] at HLv hE HPost
  have h1 : (E != 0) = true := by simp [hE]
  have h2 : (E == 0) = false := by simp [hE]
  obtain ⟨N, hN⟩ : ∃ N, N = nd 0 z32 z32 z32 z32 := ⟨_, rfl⟩
  have HB : Hid (Tryd.prog.built 43 [] = some (encR (.slice none 0 0) N).toArray) := by rw [hN]; exact built_proof0
  have HSz : Hid ((Tryd.prog.info? 43).map (·.size) = some (encR (.slice none 0 0) N).toArray.size ∧ (encR (.slice none 0 0) (List.replicate 129 0)).toArray.size = (encR (.slice none 0 0) N).toArray.size) := ⟨encR_sz _ N (by rw [hN]; rfl), by rw [hN]; rfl⟩
  rw [← hN] at HPost
  obtain ⟨fp, hup⟩ := u_proof
  have HUP := hidden hup
  clear hEE hE hN hup
  go_enter Tryd.func12, Tryd.ntmps12
  go_wp2_with (first
    | ((with_reducible refine at_bxd 3 ?_); refine wpList_bx _ rfl _ _ rfl _ rfl ?_; intro w1 g3 hg3 hl3 B3 b1)
    | ((with_reducible refine at_ald 4 ?_); refine wpList_al _ rfl _ rfl _ zero_proof ?_; intro w2 g4 hg4 hl4 B4 b2; have c2 := grow_trans b1 b2)
    | (go_at_call 31; refine (HLv.out _ c2).mono ?_; rintro e w3 ⟨rfl, b3⟩; have D4 := B4.grow b3; have c3 := grow_trans c2 b3)
    | ((with_reducible refine at_bd ?_); refine wpList_bld _ rfl _ _ rfl _ (by rw [List.map_toArray]; exact HB.out) ?_)
    | ((with_reducible refine at_st 4 ?_); refine wpList_sto _ rfl _ _ _ rfl g4 _ (encR (.slice none 0 0) N).toArray rfl rfl D4 HSz.out.1 HSz.out.2 (encR_one _ _ _ _) ?_; intro w4 B5 r4))
  exact bodyPost_ret (v := .tuple #[.agg (encR (.slice none 0 0) N).toArray, .int .i64 E]) (results_agg_tmp rfl _ _ g4 _ _ rfl rfl B5 HUP.out HSz.out.1) rfl (HPost.out _ (below_row c3 r4 (Nat.le_trans b1.size hg4)))

set_option maxRecDepth 100000 in
set_option maxHeartbeats 8000000 in
theorem rway_good (v : Value) (V : Nat → Value) (es : List Ent) (key : List Int) (w : World) (hv : PrAt w v V es) (hn : es.length ≤ 4096) (hE : errB es = 0) (hkey : Key key) :
    Calls Tryd.prog 12 #[v, .agg (B key)] w (WayPost es key w) := by
  have hkeys := hv.keys
  have HKEY := hidden hkey
  have HKZ : Hid ((Tryd.prog.info? 24).map (·.size) = some (B key).size) := by show _ = _; rw [B_size, hkey.1]; exact sz_path
  have HLv : Hid (∀ w', Below w.heap.size w w' → Calls Tryd.prog 31 #[v] w' fun e w'' => e = .returned (.int .i64 0) ∧ Below w'.heap.size w' w'') := fun w' hb => by
    have := refList_any v V es w' (hv.grow hb) (by omega)
    rwa [hE] at this
  have HPost : Hid (∀ w' sa sc n N hs, hs = sds 256 0 es key → N = endN (rst 256 0 es key) → hs.length = n → w'.ownsRow w.heap.size 39 32 (.slice sa n sc) n (flatH hs) → Below w.heap.size w w' → WayPost es key w (.returned (.tuple #[.agg (encR (.slice sa n sc) N).toArray, .int .i64 0])) w') := by
    intro w' sa sc n N hs e1 e2 e3 ho hb
    have f1 : wyH es key = hs := by rw [wyH, if_pos hE, e1]
    have f2 : wyN es key = N := by rw [wyN, if_pos hE, e2]
    refine ⟨sa, sc, ?_, ?_, hb⟩
    · rw [f1, f2, hE, e3]
    · rw [f1, e3]
      exact ho
  have HST := hidden (WaySt.start (es := es) key hkeys)
  have hlsE : lsE [] es = 0 := by rw [errB, if_neg (by omega)] at hE; exact hE
  have HOK : Hid ((∀ e ∈ es, e.2.length ≤ 1024) ∧ Apart1 es) := ⟨(lsE_ok [] es hlsE).1, (lsE_ok [] es hlsE).2.1⟩
  obtain ⟨its0, hit0, hpo0⟩ := PrO.of hv
  have HIT0 := hidden hit0
  have HPO0 := hidden hpo0
  obtain ⟨a, cap, rfl, _, _, _⟩ := hv
  obtain ⟨fp, hup⟩ := u_proof
  have HUP := hidden hup
  obtain ⟨Z, hZ⟩ : ∃ Z : List Int, Z = List.replicate 129 0 := ⟨_, rfl⟩
  have HZ := hidden hZ
  have HZP : Hid (∀ w, (zeroValue 43).run Tryd.prog w = .ok (.agg (encR (.slice none 0 0) Z).toArray) w) := by rw [hZ]; exact zero_proof
  have HSz : Hid (∀ s N, N.length = 129 → (Tryd.prog.info? 43).map (·.size) = some (encR s N).toArray.size ∧ (encR (.slice none 0 0) Z).toArray.size = (encR s N).toArray.size) := fun s N hN => ⟨encR_sz _ N hN, by simp [encR, hN, hZ]⟩
  have HZL : Hid (Z.length = 129) := by rw [hZ]; rfl
  obtain ⟨m0, hm0⟩ : ∃ m0, m0 = es.length := ⟨_, rfl⟩
  have HM0 := hidden hm0
  rw [← hm0] at hn HPO0 HLv ⊢
  clear hE hup hkey hkeys hZ hlsE hit0 hpo0 hm0
  go_enter Tryd.func12, Tryd.ntmps12
  go_wp2_with (first
    | ((with_reducible refine at_bxd 3 ?_); refine wpList_bx _ rfl _ _ rfl _ rfl ?_; intro w1 g3 hg3 hl3 B3 b1)
    | ((with_reducible refine at_ald 4 ?_); refine wpList_al _ rfl _ rfl _ HZP.out ?_; intro w2 g4 hg4 hl4 B4 b2; have c2 := grow_trans b1 b2; have D3 := B3.grow b2)
    | (go_at_call 31; refine (HLv.out _ c2).mono ?_; rintro e w3 ⟨rfl, b3⟩; have D4 := B4.grow b3; have E3 := D3.grow b3; have c3 := grow_trans c2 b3)
    | ((with_reducible refine at_ald 7 ?_); refine wpList_al _ rfl _ rfl _ HZP.out ?_; intro w4 g7 hg7 hl7 B7 b4))
  have HB7 := hidden B7
  have HB4 := hidden b4
  have HE3 := hidden E3
  have HD4 := hidden D4
  have HG7 := hidden hg7
  have HC3 := hidden c3
  have HG4 : Hid (w.heap.size ≤ g4) := Nat.le_trans b1.size hg4
  have HPS : Hid (PrO w w4 (fun g => g ≠ g7 ∧ some g ≠ none) (.slice a m0 cap) its0) := (HPO0.out.imp (R' := fun g => g < w.heap.size) (fun g h _ => h)).grow (grow_trans c3 b4) |>.imp (fun g _ h => ⟨fun e => by have := c3.size; omega, by simp⟩)
  clear B7 b4 E3 D4 c3 b3 D3 c2 b2 b1 B3 B4 hg3 hl3 hg4 hl4 hl7 hg7 w1 w2 HPO0
  go_loopw [0, 8] (fun l i wr => ∃ (d m : Nat) (la : Option Addr) (lc : Nat) (its : List (Ent × Value)) (hs : List (List Int)) (sa : Option Addr) (sc : Nat), d ≤ 256 ∧ m ≤ 4096 ∧ l = .slice la m lc ∧ i = .int .i64 d ∧ Hid (its.length = m) ∧ Hid (PrO w wr (fun g => g ≠ g7 ∧ some g ≠ (Value.slice sa d sc).ownBlock) (.slice la m lc) its) ∧ Hid (SamE (its.map (·.1)) d ∧ Apart1 (its.map (·.1))) ∧ Hid (WaySt es key d (its.map (·.1)) hs) ∧ Hid (wr.ownsRow w3.heap.size 39 32 (.slice sa d sc) d (flatH hs)) ∧ Hid (Blk wr g7 43 (encR (.slice sa d sc) Z).toArray) ∧ Hid (Below w3.heap.size w3 wr)) (fun _ i _ => 256 - (intOf i).toNat)
  case atStart => exact ⟨0, m0, a, cap, its0, [], none, 0, by omega, hn, rfl, rfl, by show _ = _; rw [HM0.out, ← HIT0.out, List.length_map], HPS, ⟨fun _ _ _ _ j hj => by omega, by rw [HIT0.out]; exact HOK.out.2⟩, by rw [HIT0.out]; exact HST, World.ownsRow_nil _ _ _ _, HB7, HB4⟩
  case round =>
    obtain ⟨d, m, la, lc, its, hs, sa, sc, hd, hm, rfl, rfl, hml, hpo, hsa, hst, hown, hblk, hbw⟩ := hrel
    by_cases hgt : 1 < m
    · have hel : (its.map (·.1)).length = m := by rw [List.length_map]; exact hml.out
      have hd256 : d < 256 := by
        by_cases q : d = 256
        · subst q
          have := hsa.out.1.few hst.out.keys hsa.out.2
          omega
        · omega
      have z1 : (1 : Int) < (m : Int) := by omega
      have hbw0 : ∀ w', Below w3.heap.size w3 w' → Below w.heap.size w w' := fun w' q => grow_trans HC3.out q
      have HSd : Hid (∀ c w', PrO w w' (fun g => g ≠ g7 ∧ some g ≠ (Value.slice sa d sc).ownBlock) (.slice la m lc) its → Below w3.heap.size w3 w' → Calls Tryd.prog 34 #[.slice la m lc, .int .i64 d, .int .i64 c] w' (SideOwn w (its.map (·.1)) d c w')) := fun c w' hp hb => refSide_own w _ _ (its.map (·.1)) d c w' (hp.at (hbw0 w' hb)).1 (hp.at (hbw0 w' hb)).2 (by omega)
      have HAt : Hid (∀ c w' v V, PrAt w' v V (sideOf (its.map (·.1)) d c) → Calls Tryd.prog 33 #[v, .int .i64 ((d : Int) + 1)] w' fun e w'' => e = .returned (.agg (B (rt (255 - d) (d + 1) (sideOf (its.map (·.1)) d c)))) ∧ Below w'.heap.size w' w'') := by
        intro c w' v V hp
        have h := refAt_any (255 - d) (d + 1) (sideOf (its.map (·.1)) d c) v V w' (by omega) (Nat.le_trans (List.length_filter_le _ _) (by omega)) (hsa.out.2.side d c) (hsa.out.1.side hd256 c) (fun e he => HOK.out.1 e (hst.out.sub e (List.mem_filter.1 he).1)) hp
        simpa using h
      have HNX : Hid (∀ c, SamE (sideOf (its.map (·.1)) d c) (d + 1) ∧ Apart1 (sideOf (its.map (·.1)) d c) ∧ (sideOf (its.map (·.1)) d c).length ≤ 4096) := fun c => ⟨hsa.out.1.side hd256 c, hsa.out.2.side d c, Nat.le_trans (List.length_filter_le _ _) (by omega)⟩
      have hstep := hst.out.step (by omega) hd256
      have HBit : Hid (∀ w', Calls Tryd.prog 32 #[.agg (B key), .int .i64 d] w' fun e w'' => e = .returned (.int .i64 (kb key d)) ∧ Below w'.heap.size w' w'') := fun w' => by
        have := rbit_any key d w' HKEY.out
        rwa [kbi_in _ _ hd256] at this
      have hb2 := kb_two key d
      have HK3 := hidden (HE3.out.grow hbw.out)
      have hw : IntKind.i64.wrap ((d : Int) + 1) = (d : Int) + 1 := by rw [IntKind.wrap_i64]; omega
      obtain ⟨β, hβ⟩ : ∃ β, β = kb key d := ⟨_, rfl⟩
      rw [← hβ] at HBit hstep hb2
      have hw1 : IntKind.i64.wrap (1 - β) = 1 - β := by rw [IntKind.wrap_i64]; omega
      obtain ⟨D, hD⟩ : ∃ D, D = rt (255 - d) (d + 1) (sideOf (its.map (·.1)) d (1 - β)) := ⟨_, rfl⟩
      have HDK : Hid (D.length = 32 ∧ Bytes D) := by rw [hD]; exact rt_len _ _ _
      have HAD := hidden (HAt.out (1 - β))
      have HNM := hidden (HNX.out β)
      rw [← hD] at HAD hstep
      have HSTEP := hidden hstep
      have HOO := hidden hown.out
      have HBB := hidden hblk.out
      have HBO := hidden hbw.out
      have HPO := hidden hpo.out
      have HBW0 := hidden hbw0
      obtain ⟨β', hβ'⟩ : ∃ β', β' = 1 - β := ⟨_, rfl⟩
      have HSdm := hidden (HSd.out β)
      have HSdo := hidden (HSd.out (1 - β))
      rw [← hβ'] at HSdo HAD hw1
      have hsub : (1 : Int) - β = β' := hβ'.symm
      clear hml hpo hsa hst hown hblk hbw hβ hstep hD HAt HNX hel hb2 hbw0 HSd hβ'
      go_wp2_with (first
        | ((with_reducible refine at_ldd 19 3 ?_); refine wpList_ld _ rfl _ _ rfl g3 _ rfl HK3.out _ _ Tryd.underlying24 HKZ.out ?_)
        | (go_at_call 32; refine (HBit.out _).mono ?_; rintro e x2 ⟨rfl, q2⟩))
      have d0 : Below wr.heap.size wr x2.drew := grow_trans q2 (Below.refl _ _).drew
      have HS : Hid (∀ w', Below wr.heap.size wr w' → Blk w' g7 43 (encR (.slice sa d sc) Z).toArray) := fun w' q => HBB.out.grow q
      refine wp_region_last (S := fun w' => Blk w' g7 43 (encR (.slice sa d sc) Z).toArray) 13 (by kernel_rfl) (HS.out _ d0) (fun hHeld => ?_)
      refine wpAnyL_take (i := 0) (v := .pointer (some ⟨g7, 0, none⟩)) rfl (by kernel_rfl) (by kernel_rfl) (by kernel_rfl) (by kernel_rfl) (by kernel_rfl) (fun _ _ _ h => h) (Or.inl ⟨by rfl, fun w hS => by go_simp⟩) hHeld ?_
      simp only [Act.put, List.getElem_toArray, List.getElem_cons_zero, List.setIfInBounds_toArray, List.set_cons_zero, List.set_cons_succ]
      refine wpAnyL_take (i := 1) (v := .slice sa d sc) rfl (by kernel_rfl) (by kernel_rfl) (by kernel_rfl) (by kernel_rfl) (by kernel_rfl) (fun _ _ _ h => h) (Or.inl ⟨by rfl, fun w hS => by (have s1 := proof_side hS; go_simp)⟩) hHeld ?_
      simp only [Act.put, List.getElem_toArray, List.getElem_cons_zero, List.getElem_cons_succ, List.setIfInBounds_toArray, List.set_cons_zero, List.set_cons_succ]
      refine wpAnyL_take (i := 2) (v := .slice la m lc) rfl (by kernel_rfl) (by kernel_rfl) (by kernel_rfl) (by kernel_rfl) (by kernel_rfl) (fun _ _ _ h => h) (Or.inl ⟨by rfl, fun w hS => by go_simp⟩) hHeld ?_
      simp only [Act.put, List.getElem_toArray, List.getElem_cons_zero, List.getElem_cons_succ, List.setIfInBounds_toArray, List.set_cons_zero, List.set_cons_succ]
      refine wpAnyL_take (i := 3) (v := .int .i64 d) rfl (by kernel_rfl) (by kernel_rfl) (by kernel_rfl) (by kernel_rfl) (by kernel_rfl) (fun _ _ _ h => h) (Or.inl ⟨by rfl, fun w hS => by go_simp⟩) hHeld ?_
      simp only [Act.put, List.getElem_toArray, List.getElem_cons_zero, List.getElem_cons_succ, List.setIfInBounds_toArray, List.set_cons_zero, List.set_cons_succ]
      refine wpAnyL_take (i := 4) (v := .int .i64 β) rfl (by kernel_rfl) (by kernel_rfl) (by kernel_rfl) (by kernel_rfl) (by kernel_rfl) (fun _ _ _ h => h) (Or.inl ⟨by rfl, fun w hS => by go_simp⟩) hHeld ?_
      simp only [Act.put, List.getElem_toArray, List.getElem_cons_zero, List.getElem_cons_succ, List.setIfInBounds_toArray, List.set_cons_zero, List.set_cons_succ]
      refine wpAnyL_take (i := 5) (v := .int .i64 β') rfl (by kernel_rfl) (by kernel_rfl) (by kernel_rfl) (by kernel_rfl) (by kernel_rfl) (fun _ _ _ h => h) (Or.inl ⟨by rfl, fun w hS => by go_simp⟩) hHeld ?_
      simp only [Act.put, List.getElem_toArray, List.getElem_cons_zero, List.getElem_cons_succ, List.setIfInBounds_toArray, List.set_cons_zero, List.set_cons_succ]
      refine wpAnyL_take (i := 7) (v := .int .i64 d) rfl (by kernel_rfl) (by kernel_rfl) (by kernel_rfl) (by kernel_rfl) (by kernel_rfl) (fun _ _ _ h => h) (Or.inl ⟨by rfl, fun w hS => by go_simp⟩) hHeld ?_
      simp only [Act.put, List.getElem_toArray, List.getElem_cons_zero, List.getElem_cons_succ, List.setIfInBounds_toArray, List.set_cons_zero, List.set_cons_succ]
      refine wpAnyL_take (i := 8) (v := .int .i64 ((d : Int) + 1)) rfl (by kernel_rfl) (by kernel_rfl) (by kernel_rfl) (by kernel_rfl) (by kernel_rfl) (fun _ _ _ h => h) (Or.inl ⟨by rfl, fun w hS => by go_simp⟩) hHeld ?_
      simp only [Act.put, List.getElem_toArray, List.getElem_cons_zero, List.getElem_cons_succ, List.setIfInBounds_toArray, List.set_cons_zero, List.set_cons_succ]
      refine wpAnyL_one (i := 6) rfl (by kernel_rfl) (fun KQ hK => ?_)
      go_simp
      refine (HSdo.out _ (HPO.out.grow d0) (grow_trans HBO.out d0)).mono ?_
      rintro e x3 ⟨v3, its3, rfl, i1, i2, i3, a3⟩
      have d3 := grow_trans d0 a3
      have P3 := (PrO.own i3 i2).at (HBW0.out _ (grow_trans HBO.out d3))
      rw [i1] at P3
      have HP3 := hidden P3.1
      clear P3 i1 i2 i3
      refine hK.out _ _ (HS.out _ d3) (fun hHeld => ?_)
      clear hK KQ
      refine wpAnyL_one (i := 9) rfl (by kernel_rfl) (fun KQ hK => ?_)
      go_simp
      refine (HAD.out _ _ _ HP3.out).mono ?_
      rintro e x4 ⟨rfl, a4⟩
      have d4 := grow_trans d3 a4
      have o4 := ownsH_below HOO.out d4
      refine hK.out _ _ (HS.out _ d4) (fun hHeld => ?_)
      clear hK KQ
      refine wpAnyL_one (i := 10) rfl (by kernel_rfl) (fun KQ hK => ?_)
      have oA := o4.alloc (.cells (B D) 39)
      have dA := grow_trans d4 (grow_alloc x4 (.cells (B D) 39))
      refine step_bsh _ rfl _ rfl D rfl HDK.out.1 ?_
      refine hK.out _ _ (HS.out _ dA) (fun hHeld => ?_)
      clear hK KQ
      refine wpAnyL_one (i := 11) rfl (by kernel_rfl) (fun KQ hK => ?_)
      refine step_appH _ rfl _ _ rfl w3.heap.size _ d (flatH hs) oA rfl x4.heap.size D rfl (Blk.new _ _ _) HDK.out.1 (by omega) (Nat.le_trans (Nat.le_trans HBO.out.size d4.size) (by simp)) ?_
      intro v5 x5 ho5 hg5
      have nb := own_ne oA (HS.out _ dA)
      refine hK.out _ _ ((HS.out _ dA).keptO hg5 nb) (fun hHeld => ?_)
      clear hK KQ
      refine wpAnyL_take (i := 12) (v := .pointer (some ⟨g7, 0, none⟩)) rfl (by kernel_rfl) (by kernel_rfl) (by kernel_rfl) (by kernel_rfl) (by kernel_rfl) (fun _ _ _ h => h) (Or.inl ⟨by rfl, fun w hS => by go_simp⟩) hHeld ?_
      simp only [Act.put, List.getElem_toArray, List.getElem_cons_zero, List.getElem_cons_succ, List.setIfInBounds_toArray, List.set_cons_zero, List.set_cons_succ]
      have hB5 := hHeld
      have hcell := proof_side hB5
      have hfr := hB5.frozen 0
      obtain ⟨sa5, sc5, rfl⟩ := own_slice ho5
      refine wpAnyL_last rfl (by kernel_rfl) (by kernel_rfl) (fun KQ hK => ?_)
      go_simp
      
      refine hK.out _ _ ?_
      clear hK KQ
      have hB6 := blk_side hB5 (.slice sa5 (d + 1) sc5)
      have gr6 := grown_setCell x5 g7 0 (.slice sa5 (d + 1) sc5)
      have ho6 := ho5.kept gr6 (.inr (fun e => own_ne ho5 hB5 e.symm))
      have hb5 : Below w3.heap.size w3 x5 := below_ownH (grow_trans HBO.out dA) oA (Nat.le_refl _) hg5
      have hb6 := below_row hb5 gr6 HG7.out
      have hp6 := ((HPO.out.grow dA).kept hg5 (fun g h => h.2)).kept gr6 (fun g h e => h.1 (by injection e))
      rw [← flatH_snoc] at ho6
      have HF6 := hidden (And.intro ho6 (And.intro hB6 hb6))
      have HP6 := hidden hp6
      generalize x5.setCell ⟨g7, 0, none⟩ (.slice sa5 (d + 1) sc5) = x6 at *
      clear hB5 hcell hfr ho5 hg5 nb hB6 gr6 ho6 hb5 hb6 o4 oA dA hHeld HS hp6
      go_wp2_with (go_at_call 34; refine (HSdm.out _ HP6.out HF6.out.2.2).mono ?_; rintro e x7 ⟨v7, its7, rfl, i1, i2, i3, a7⟩)
      have HP7 : Hid (PrO w x7 (fun g => g ≠ g7 ∧ some g ≠ (Value.slice sa5 (d + 1) sc5).ownBlock) v7 its7) := (PrO.own i3 i2).imp (fun g _ h => ⟨fun e => by have := HF6.out.2.1.lt; omega, fun e => by have := (HF6.out.1.lt g e.symm).2; omega⟩)
      have HI1 := hidden i1
      obtain ⟨a7', c7', e7, _, _⟩ := HP7.out.2
      subst e7
      have hl7 : its7.length ≤ 4096 := by
        have h1 := congrArg List.length i1
        rw [List.length_map] at h1
        rw [h1]
        exact HNM.out.2.2
      obtain ⟨m7, hm7⟩ : ∃ m7, m7 = its7.length := ⟨_, rfl⟩
      have HM7 := hidden hm7
      rw [← hm7] at HP7 hl7 ⊢
      clear i1 i2 i3 hm7
      exact ⟨⟨d + 1, m7, a7', c7', its7, hs ++ [D], sa5, sc5, by omega, hl7, rfl, by go_num, HM7.out.symm, HP7, by rw [HI1.out]; exact ⟨HNM.out.1, HNM.out.2.1⟩, by rw [HI1.out]; exact HSTEP, ownsH_below HF6.out.1 a7, HF6.out.2.1.grow a7, grow_trans HF6.out.2.2 a7⟩, by simp [intOf]; omega⟩
    · have hle : (its.map (·.1)).length ≤ 1 := by rw [List.length_map, hml.out]; omega
      obtain ⟨f1, f2⟩ := hst.out.done hle
      have z1 : ¬ (1 : Int) < (m : Int) := by omega
      have hb4 := HD4.out.grow hbw.out
      have HC := hidden (grow_trans HC3.out hbw.out)
      have HO := hidden (own_base hown.out HC3.out.size)
      have n47 : g4 ≠ g7 := Nat.ne_of_lt (Nat.lt_of_lt_of_le HD4.out.lt HG7.out)
      have HHS := hidden hst.out.len
      have F1 := hidden f1
      have F2 := hidden f2
      have HB4' := hidden hb4
      have HBK := hidden hblk.out
      have HOW := hidden hown.out
      have HBW := hidden hbw.out
      clear f1 f2 hb4
      by_cases hm1 : m = 1
      · subst hm1
        obtain ⟨p, hp⟩ : ∃ p, its = [p] := List.length_eq_one_iff.1 hml.out
        obtain ⟨⟨K, U⟩, u⟩ := p
        have hk1 := hpo.out.1 ((K, U), u) (by rw [hp]; simp)
        have hlen : U.length ≤ 1024 := HOK.out.1 (K, U) (hst.out.sub (K, U) (by rw [hp]; simp))
        obtain ⟨g, off, hla, hrr⟩ : ∃ g off, la = some ⟨g, off, none⟩ ∧ wr.rangeAt g off (encP K u) := by
          obtain ⟨_, la', lc', e1, _, hr⟩ := hpo.out
          injection e1 with e2 e3 e4
          subst e2
          obtain ⟨g, off, e5, _, _, hr⟩ := hr (by rw [hp]; simp)
          have := hr 0 (by rw [hp]; simp)
          rw [hp] at this
          exact ⟨g, off, e5, by simpa using this⟩
        subst hla
        obtain ⟨A, hA⟩ : ∃ A, A = vaD U := ⟨_, rfl⟩
        have hAl : A.length = 32 := by rw [hA]; exact dig_length _
        obtain ⟨N, hN⟩ : ∃ N, N = nd 1 K A z32 z32 := ⟨_, rfl⟩
        have HNE : Hid (N = endN (rst 256 0 es key)) := by
          show _ = _
          rw [F2.out, hp, hN, hA]
          rfl
        have hKl : K.length = 32 := hk1.1.1
        have HNL : Hid (N.length = 129) := by show _ = _; rw [hN]; simp [nd, hKl, hAl, z32_length]
        have HVa : Hid (∀ w', Below wr.heap.size wr w' → Calls Tryd.prog 35 #[u] w' fun e w'' => e = .returned (.agg (B A)) ∧ Below w'.heap.size w' w'') := fun w' q => by
          rw [hA]
          exact refValue_any u U w' ((hk1.2.grow HC.out).grow q) (by omega)
        have HBL : Hid (Tryd.prog.built 41 [(0, .int .u8 1), (1, .agg (B K)), (2, .agg (B A))] = some (B N)) := by rw [hN]; exact built_leaf K A hk1.1.1 hAl
        have HLK := hidden (path_ln K hk1.1.1)
        obtain ⟨ua, uc, hu1, _⟩ := hk1.2
        obtain ⟨L, hL⟩ : ∃ L, L = U.length := ⟨_, rfl⟩
        rw [← hL] at hu1
        subst hu1
        have HS : Hid (∀ w', Below wr.heap.size wr w' → (w'.rangeAt g off (B K).toList ∧ w'.cell? ⟨g, off + 32, none⟩ = some (.slice ua L uc)) ∧ Blk w' g7 43 (encR (.slice sa d sc) Z).toArray) := fun w' q => ⟨⟨rng_key (rng_grow hrr q), rng_val (rng_grow hrr q) hk1.1.1⟩, HBK.out.grow q⟩
        have HIM : Hid ((Tryd.prog.info? 41).map (·.size) = some (B N).size) := by show _ = _; rw [B_size, HNL.out]; exact size_node
        have HTZ : Hid (1 + (B N).size ≤ (encR (.slice sa d sc) Z).toArray.size) := by show _ ≤ _; rw [B_size, HNL.out]; simp [encR, HZL.out]
        have HBT : Hid ((B N).toList = N.map (Value.int .u8)) := B_toList N
        clear hN hA hAl hKl hL hp hk1 hlen hrr hpo hsa hst hml hown hblk hbw hle hgt
        go_wp2_with fail
        have d0 : Below wr.heap.size wr wr.drew := (Below.refl _ _).drew
        refine wp_region_last (S := fun w' => (w'.rangeAt g off (B K).toList ∧ w'.cell? ⟨g, off + 32, none⟩ = some (.slice ua L uc)) ∧ Blk w' g7 43 (encR (.slice sa d sc) Z).toArray) 11 (by kernel_rfl) (HS.out _ d0) (fun hHeld => ?_)
        refine wpAnyL_take (i := 0) (v := .slice (some ⟨g, off, none⟩) 1 lc) rfl (by kernel_rfl) (by kernel_rfl) (by kernel_rfl) (by kernel_rfl) (by kernel_rfl) (fun _ _ _ h => h) (Or.inl ⟨by rfl, fun w hS => by go_simp⟩) hHeld ?_
        simp only [Act.put, List.getElem_toArray, List.getElem_cons_zero, List.setIfInBounds_toArray, List.set_cons_zero, List.set_cons_succ]
        refine wpAnyL_take (i := 1) (v := .pointer (some ⟨g, off, none⟩)) rfl (by kernel_rfl) (by kernel_rfl) (by kernel_rfl) (by kernel_rfl) (by kernel_rfl) (fun _ _ _ h => h) (Or.inl ⟨by rfl, fun w hS => by go_simp⟩) hHeld ?_
        simp only [Act.put, List.getElem_toArray, List.getElem_cons_zero, List.getElem_cons_succ, List.setIfInBounds_toArray, List.set_cons_zero, List.set_cons_succ]
        refine wpAnyL_take (i := 2) (v := .pointer (some ⟨g, off, none⟩)) rfl (by kernel_rfl) (by kernel_rfl) (by kernel_rfl) (by kernel_rfl) (by kernel_rfl) (fun _ _ _ h => h) (Or.inl ⟨by rfl, fun w hS => by go_simp⟩) hHeld ?_
        simp only [Act.put, List.getElem_toArray, List.getElem_cons_zero, List.getElem_cons_succ, List.setIfInBounds_toArray, List.set_cons_zero, List.set_cons_succ]
        refine wpAnyL_take (i := 3) (v := .agg (B K)) rfl (by kernel_rfl) (by kernel_rfl) (by kernel_rfl) (by kernel_rfl) (by kernel_rfl) (fun _ _ _ h => h) (yieldsIf_load_mid rfl 24 (.tmp 46) rfl g (off) rfl (B K).toList _ (fun w hS => hS.1.1) Tryd.underlying24 rfl HLK.out) hHeld ?_
        simp only [Act.put, List.getElem_toArray, List.getElem_cons_zero, List.getElem_cons_succ, List.setIfInBounds_toArray, List.set_cons_zero, List.set_cons_succ]
        refine wpAnyL_take (i := 4) (v := .slice (some ⟨g, off, none⟩) 1 lc) rfl (by kernel_rfl) (by kernel_rfl) (by kernel_rfl) (by kernel_rfl) (by kernel_rfl) (fun _ _ _ h => h) (Or.inl ⟨by rfl, fun w hS => by go_simp⟩) hHeld ?_
        simp only [Act.put, List.getElem_toArray, List.getElem_cons_zero, List.getElem_cons_succ, List.setIfInBounds_toArray, List.set_cons_zero, List.set_cons_succ]
        refine wpAnyL_take (i := 5) (v := .pointer (some ⟨g, off, none⟩)) rfl (by kernel_rfl) (by kernel_rfl) (by kernel_rfl) (by kernel_rfl) (by kernel_rfl) (fun _ _ _ h => h) (Or.inl ⟨by rfl, fun w hS => by go_simp⟩) hHeld ?_
        simp only [Act.put, List.getElem_toArray, List.getElem_cons_zero, List.getElem_cons_succ, List.setIfInBounds_toArray, List.set_cons_zero, List.set_cons_succ]
        refine wpAnyL_take (i := 6) (v := .pointer (some ⟨g, off + 32, none⟩)) rfl (by kernel_rfl) (by kernel_rfl) (by kernel_rfl) (by kernel_rfl) (by kernel_rfl) (fun _ _ _ h => h) (Or.inl ⟨by rfl, fun w hS => by go_simp⟩) hHeld ?_
        simp only [Act.put, List.getElem_toArray, List.getElem_cons_zero, List.getElem_cons_succ, List.setIfInBounds_toArray, List.set_cons_zero, List.set_cons_succ]
        refine wpAnyL_take (i := 7) (v := .slice ua L uc) rfl (by kernel_rfl) (by kernel_rfl) (by kernel_rfl) (by kernel_rfl) (by kernel_rfl) (fun _ _ _ h => h) (Or.inl ⟨by rfl, fun w hS => by (have s1 := hS.1.2; go_simp)⟩) hHeld ?_
        simp only [Act.put, List.getElem_toArray, List.getElem_cons_zero, List.getElem_cons_succ, List.setIfInBounds_toArray, List.set_cons_zero, List.set_cons_succ]
        refine wpAnyL_one (i := 8) rfl (by kernel_rfl) (fun KQ hK => ?_)
        go_simp
        refine (HVa.out _ d0).mono ?_
        rintro e x1 ⟨rfl, a1⟩
        have d1 := grow_trans d0 a1
        refine hK.out _ _ (HS.out _ d1) (fun hHeld => ?_)
        clear hK KQ
        refine wpAnyL_take (i := 9) (v := .agg (B N)) rfl (by kernel_rfl) (by kernel_rfl) (by kernel_rfl) (by kernel_rfl) (by kernel_rfl) (fun _ _ _ h => h) (Or.inl ⟨by rfl, fun w hS => exec_bld _ _ 41 _ (by rfl) _ (by rw [List.map_toArray]; exact HBL.out) w⟩) hHeld ?_
        simp only [Act.put, List.getElem_toArray, List.getElem_cons_zero, List.getElem_cons_succ, List.setIfInBounds_toArray, List.set_cons_zero, List.set_cons_succ]
        refine wpAnyL_take (i := 10) (v := .pointer (some ⟨g7, 1, none⟩)) rfl (by kernel_rfl) (by kernel_rfl) (by kernel_rfl) (by kernel_rfl) (by kernel_rfl) (fun _ _ _ h => h) (Or.inl ⟨by rfl, fun w hS => by go_simp⟩) hHeld ?_
        simp only [Act.put, List.getElem_toArray, List.getElem_cons_zero, List.getElem_cons_succ, List.setIfInBounds_toArray, List.set_cons_zero, List.set_cons_succ]
        refine wpAnyL_last rfl (by kernel_rfl) (by kernel_rfl) (fun KQ hK => ?_)
        refine step_stm _ rfl _ _ _ rfl g7 1 (B N) rfl rfl (hHeld.2.there 1 _ HTZ.out) HIM.out (B_one _) ?_
        refine hK.out _ _ ?_
        clear hK KQ
        rw [HBT.out]
        have h8 := blk_end (HBK.out.grow d1) N HZL.out HNL.out
        have gr8 := grown_setCells g7 (N.map (Value.int .u8)) 1 x1
        have HK8 := hidden (And.intro h8 (And.intro ((HB4'.out.grow d1).kept gr8 n47) (And.intro ((ownsH_below HO.out d1).kept gr8 (.inr (fun e => own_ne (ownsH_below HOW.out d1) (HBK.out.grow d1) e.symm))) (below_row (grow_trans HC.out d1) gr8 (Nat.le_trans HC3.out.size HG7.out)))))
        clear h8 gr8 HS hHeld
        generalize x1.setCells g7 1 (N.map (Value.int .u8)) = x7 at *
        go_wp2_with (first
          | ((with_reducible refine at_ldd 55 7 ?_); refine wpList_lds _ rfl _ _ rfl g7 _ _ rfl HK8.out.1 HUP.out (HSz.out _ N HNL.out).1 ?_)
          | ((with_reducible refine at_st 4 ?_); refine wpList_sto _ rfl _ _ _ rfl g4 _ (encR (.slice sa d sc) N).toArray rfl rfl HK8.out.2.1 (HSz.out _ N HNL.out).1 (HSz.out _ N HNL.out).2 (encR_one _ _ _ _) ?_; intro x8 B9 r9))
        have ho9 := HK8.out.2.2.1.kept r9 (.inr (fun e => own_ne HK8.out.2.2.1 HK8.out.2.1 e.symm))
        exact bodyPost_ret (v := .tuple #[.agg (encR (.slice sa d sc) N).toArray, .int .i64 0]) (results_agg_tmp rfl _ _ g4 _ _ rfl rfl B9 HUP.out (HSz.out _ N HNL.out).1) rfl (HPost.out _ _ _ _ _ hs F1.out HNE.out HHS.out ho9 (below_row HK8.out.2.2.2 r9 HG4.out))
      · have hm0' : m = 0 := by omega
        subst hm0'
        have he : its = [] := List.eq_nil_of_length_eq_zero hml.out
        have HNE : Hid (Z = endN (rst 256 0 es key)) := by
          show _ = _
          rw [F2.out, he, HZ.out]
          rfl
        clear he hpo hsa hst hml hown hblk hbw hle hgt hm1
        go_wp2_with (first
          | ((with_reducible refine at_ldd 55 7 ?_); refine wpList_lds _ rfl _ _ rfl g7 _ _ rfl HBK.out HUP.out (HSz.out _ Z HZL.out).1 ?_)
          | ((with_reducible refine at_st 4 ?_); refine wpList_sto _ rfl _ _ _ rfl g4 _ (encR (.slice sa d sc) Z).toArray rfl rfl HB4'.out (HSz.out _ Z HZL.out).1 (HSz.out _ Z HZL.out).2 (encR_one _ _ _ _) ?_; intro x8 B9 r9))
        have ho9 := HO.out.kept r9 (.inr (fun e => own_ne HO.out HB4'.out e.symm))
        exact bodyPost_ret (v := .tuple #[.agg (encR (.slice sa d sc) Z).toArray, .int .i64 0]) (results_agg_tmp rfl _ _ g4 _ _ rfl rfl B9 HUP.out (HSz.out _ Z HZL.out).1) rfl (HPost.out _ _ _ _ _ hs F1.out HNE.out HHS.out ho9 (below_row HC.out r9 HG4.out))

theorem rway_any (v : Value) (V : Nat → Value) (es : List Ent) (key : List Int) (w : World) (hv : PrAt w v V es) (hn : es.length ≤ 140737488355328) (hkey : Key key) :
    Calls Tryd.prog 12 #[v, .agg (B key)] w (WayPost es key w) := by
  by_cases hE : errB es = 0
  · have hl : es.length ≤ 4096 := by
      by_cases h : 4096 < es.length
      · rw [errB, if_pos h] at hE
        omega
      · omega
    exact rway_good v V es key w hv hl hE hkey
  · exact rway_bad v V es key w hv hn hE

end Go.Proofs.YtdpaanidangnlaaDoor
