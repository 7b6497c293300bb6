/- What walk tells of a root and a key beside what the document tells of the entries; the calls at any handle. -/
import Derived.Test.YtdpaanidangnlaaGreatDoorWw32
import Derived.Test.YtdpaanidangnlaaGreatDoorWw31
import Derived.Test.YtdpaanidangnlaaGreatDoorWw30
namespace Go.Proofs.YtdpaanidangnlaaGreatDoor
set_option maxRecDepth 20000
open Go.RowKit

theorem errB_few {es : List Ent} (h : es.length ≤ 12) (ha : Apart1 es) (hl : ∀ e ∈ es, e.2.length ≤ 1024) : errB es = 0 := by
  rw [errB, if_neg (by omega)]
  exact lsE_of [] es hl ha (fun e _ => by simp)

/-- What is told of a key in a tree, and what the entries say. -/
structure WkEq (cs : List (Nat × Ce)) (h : Nat) (T : Tre) (es : List Ent) (K : List Int) (kd : Int) (a b : List Int) : Prop where
  sides : (T.oth K).map (sdD cs) = wyH es K
  fin : endN (T.efin K) = wyN es K
  nd_ : endN (T.efin K) = nd kd a b z32 z32
  ok : Nd kd a b z32 z32
  fnd : fnd (T.efin K) K = rfnd es K
  kind : (cat cs (T.fin K h : Int)).kind = kd
  zero : (T.fin K h = 0 ∧ kd = 0) ∨ (T.fin K h ≠ 0 ∧ kd = 1)
  len : (T.hs K h).length = (wyH es K).length
  few : (T.hs K h).length ≤ 256

theorem wk_eq {cs : List (Nat × Ce)} (W : Wf cs []) {h : Nat} {T : Tre} {es : List Ent} (hT : IsT cs h T) (hp : T.ents.Perm es) (hd : (sdC cs h).kind = 2 → (sdC cs h).dp = 0) (h12 : es.length ≤ 12) (ha : Apart1 es) (hl : ∀ e ∈ es, e.2.length ≤ 1024) (K : List Int) : ∃ kd a b, WkEq cs h T es K kd a b := by
  have hE := errB_few h12 ha hl
  have ok := tree_ok W T h hT
  have hkeys : ∀ e ∈ es, Key e.1 := fun e he => (ok.ent e (hp.mem_iff.2 he)).1
  obtain ⟨t1, t2, t3⟩ := way_tree W K T h 0 hT hd (by omega)
  obtain ⟨p1, p2⟩ := way_perm K 256 0 T.ents es hp
  have hr1 := (up_way 256 0 es K rfl hkeys ha (fun e _ j hj => by omega)).1
  have hrst : T.efin K = rst 256 0 es K := by
    rw [t2]
    match hq : rst 256 0 es K, hr1, p2 with
    | [], _, p2 => exact List.perm_nil.1 p2
    | [e], _, p2 => exact List.perm_singleton.1 p2
    | _ :: _ :: _, hr1, _ => simp at hr1
  have hsd : (T.oth K).map (sdD cs) = wyH es K := by rw [t1, wyH, if_pos hE]; exact p1
  have hfi : endN (T.efin K) = wyN es K := by rw [wyN, if_pos hE, hrst]
  have hlen : (T.hs K h).length = (wyH es K).length := by rw [Tre.hs_oth, ← hsd, List.length_map]
  have hfd : fnd (T.efin K) K = rfnd es K := by
    by_cases q : ∃ e ∈ es, e.1 = K
    · obtain ⟨e, he, hk⟩ := q
      rw [efin_key W K T h hT e (hp.mem_iff.2 he) hk]
      obtain ⟨i, hi, hei⟩ := List.getElem_of_mem he
      have hg : es.getD i e00 = e := by simp [List.getD, hi, hei]
      rw [rfnd_hit es K i hi (fun j hj hjk => ?_) (by rw [hg]; exact hk), hg]
      · simp [Go.Proofs.YtdpaanidangnlaaGreatDoor.fnd, hk]
      · have hj' : j < es.length := by omega
        have := List.pairwise_iff_getElem.1 ha j i hj' hi hj
        apply this
        rw [hei, hk]
        simpa [List.getD, hj'] using hjk
    · have hm : rfnd es K = ([], false) := rfnd_miss es K (fun j hj e => q ⟨es.getD j e00, by simp [List.getD, hj], e⟩)
      rw [hm]
      rcases fin_is K T h hT with ⟨_, e⟩ | ⟨k, b, e, _⟩
      · rw [e]; rfl
      · rw [e]
        have hne : k ≠ K := fun hk => q ⟨(k, b), hp.mem_iff.1 (efin_mem K T (k, b) (by rw [e]; simp)), hk⟩
        simp [Go.Proofs.YtdpaanidangnlaaGreatDoor.fnd, hne]
  have h256 : (T.hs K h).length ≤ 256 := by rw [Tre.hs_oth]; omega
  have z := z32_bytes
  rcases fin_is K T h hT with ⟨e1, e2⟩ | ⟨k, b, e2, h1, h2, h3, h4, h5⟩
  · exact ⟨0, z32, z32, hsd, hfi, by rw [e2]; rfl, ⟨by omega, by omega, rfl, rfl, rfl, rfl, z, z, z, z⟩, hfd, by rw [e1]; rfl, .inl ⟨e1, rfl⟩, hlen, h256⟩
  · have hkk : Key k := by rw [← h4]; exact (W.ok _).hk
    exact ⟨1, k, vaD b, hsd, hfi, by rw [e2]; rfl, ⟨by omega, by omega, hkk.1, dig_length _, rfl, rfl, hkk.2, dig_bytes _, z, z⟩, hfd, by rw [cat_is h1]; exact h3, .inr ⟨by omega, rfl⟩, hlen, h256⟩

/-- The root of a tree that was made from depth 0 on is one. -/
theorem bd_root {cs cs' : List (Nat × Ce)} {es : List Ent} {h : Nat} (b : Bd cs es 0 h cs') : vRt true (cot cs' h) (cat cs' h) h = 0 := by
  unfold vRt
  rw [if_pos rfl]
  by_cases h0 : h = 0
  · subst h0
    rfl
  · obtain ⟨_, _, o3, _⟩ := b.own h0
    rw [if_neg (by omega), if_neg (by rw [cot, if_pos (by omega), show ((h : Int) - 1).toNat = h - 1 by omega]; omega), cat_nat]
    rw [if_neg]
    intro q
    unfold vDp at q
    rw [if_pos rfl] at q
    split at q
    · next k =>
      rw [b.dp k] at q
      omega
    · omega

/-- A handle that is a root has a tree. -/
theorem root_tree {cs : List (Nat × Ce)} (W : Wf cs []) {h : Int} (he : vRt true (cot cs h) (cat cs h) h = 0) : ∃ (n : Nat) (T : Tre), h = (n : Int) ∧ IsT cs n T := by
  unfold vRt at he
  rw [if_pos rfl] at he
  by_cases h0 : h = 0
  · exact ⟨0, .emp, h0, rfl⟩
  · rw [if_neg h0] at he
    by_cases hc : cot cs h = 0
    · rw [if_pos hc] at he
      omega
    · obtain ⟨i, e, hi, _, _⟩ := cot_in (cs := cs) (h := h) (by omega)
      obtain ⟨T, hT⟩ := tree_ex W i hi
      exact ⟨i + 1, T, by omega, hT⟩

theorem find_odd {w : World} {v : Value} {cs : List (Nat × Ce)} (V : Vw w v true (cot cs) (cat cs)) (W : Wf cs []) (h : Int) (K : List Int) (hK : Key K) (E : Int) (hE : vRt true (cot cs h) (cat cs h) h = E) : Calls Tryz.prog 18 #[v, .int .i64 h, .agg (B K)] w fun e w' => ∃ v' b, e = .returned (.tuple #[v', .bool b, .int .i64 E]) ∧ Below w.heap.size w w' := by
  by_cases h0 : E = 0
  · subst h0
    obtain ⟨n, T, rfl, hT⟩ := root_tree W hE
    exact (find_any V W n T hT K hK hE).mono fun e w' ⟨v', sp, e1, _, e2⟩ => ⟨v', _, e1, e2⟩
  · exact (find_bad V h K hK E hE h0).mono fun e w' ⟨e1, e2⟩ => ⟨_, _, e1, e2⟩

theorem handles_odd {w : World} {v : Value} {cs : List (Nat × Ce)} (V : Vw w v true (cot cs) (cat cs)) (W : Wf cs []) (h : Int) (K : List Int) (hK : Key K) (E : Int) (hE : vRt true (cot cs h) (cat cs h) h = E) : Calls Tryz.prog 45 #[v, .int .i64 h, .agg (B K)] w fun e w' => ∃ v' b, e = .returned (.tuple #[v', .int .i64 b, .int .i64 E]) ∧ Below w.heap.size w w' := by
  by_cases h0 : E = 0
  · subst h0
    obtain ⟨n, T, rfl, hT⟩ := root_tree W hE
    exact (handles_any V W n T hT K hK hE).mono fun e w' ⟨a, c, e1, _, e2⟩ => ⟨_, _, e1, e2⟩
  · exact (handles_bad V h K E hE h0).mono fun e w' ⟨e1, e2⟩ => ⟨_, _, e1, e2⟩

theorem wway_odd {w : World} {v : Value} {cs : List (Nat × Ce)} (V : Vw w v true (cot cs) (cat cs)) (W : Wf cs []) (h : Int) (K : List Int) (hK : Key K) (E : Int) (hE : vRt true (cot cs h) (cat cs h) h = E) (hL : Laid w) : Calls Tryz.prog 13 #[v, .int .i64 h, .agg (B K)] w fun e w' => ∃ a n c N, e = .returned (.tuple #[.agg (encR (.slice a n c) N).toArray, .int .i64 E]) ∧ N.length = 129 ∧ Below w.heap.size w w' := by
  by_cases h0 : E = 0
  · subst h0
    obtain ⟨n, T, rfl, hT⟩ := root_tree W hE
    exact (wway_any V W n T hT K hK hE hL).mono fun e w' ⟨sa, sc, e1, _, e2⟩ => ⟨_, _, _, _, e1, by rw [← vNd_fin hT]; exact (vNd_ok V _).1, e2⟩
  · exact (wway_bad V h K hK E hE h0).mono fun e w' ⟨e1, e2⟩ => ⟨_, _, _, _, e1, rfl, e2⟩

end Go.Proofs.YtdpaanidangnlaaGreatDoor

/- The document's side of entries, told with where it lies; entries in a list that is kept apart from some blocks. -/
namespace Go.Proofs.YtdpaanidangnlaaGreatDoor
set_option maxRecDepth 20000
open Go.RowKit

def SideOwn (w0 : World) (es : List Ent) (d : Nat) (b : Int) (w : World) (e : Ending) (w' : World) : Prop :=
  ∃ v its, e = .returned v ∧ its.map (·.1) = sideOf es d b ∧ (∀ p ∈ its, Key p.1.1 ∧ Reads w0 p.2 p.1.2) ∧ w'.ownsRow w.heap.size 62 33 v its.length (flatP its) ∧ Below w.heap.size w w'

set_option maxRecDepth 100000 in
set_option maxHeartbeats 8000000 in
theorem refSide_own (w0 : World) (v : Value) (V : Nat → Value) (es : List Ent) (d : Nat) (b : Int) (w : World) (hv : PrAt w v V es) (hr0 : ∀ i, i < es.length → Reads w0 (V i) (es.getD i e00).2) (hn : es.length ≤ 4096) :
    Calls Tryz.prog 141 #[v, .int .i64 d, .int .i64 b] w (SideOwn w0 es d b w) := by
  have hkeys := hv.keys
  obtain ⟨a, cap, rfl, hcap, hc, hr⟩ := hv
  have HC := hidden hc
  have HR : Hid (∀ i, i < es.length → Key (es.getD i e00).1 ∧ Reads w0 (V i) (es.getD i e00).2) := fun i hi => ⟨(hr i hi).1, hr0 i hi⟩
  obtain ⟨n, hnn⟩ : ∃ n, n = es.length := ⟨_, rfl⟩
  have HN := hidden hnn
  have HPost : Hid (∀ w' s its, its.map (·.1) = sideOf es d b → (∀ p ∈ its, Key p.1.1 ∧ Reads w0 p.2 p.1.2) → w'.ownsRow w.heap.size 62 33 s its.length (flatP its) → Below w.heap.size w w' → SideOwn w0 es d b w (.returned s) w') := fun w' s its h1 h2 h3 h4 => ⟨s, its, rfl, h1, h2, h3, h4⟩
  rw [← hnn] at hn ⊢
  clear hc hr hcap hnn hkeys hr0
  go_enter Tryz.func141, Tryz.ntmps141
  go_wp2_with fail
  go_loopw [7, 8] (fun s i wr => ∃ (k m : Nat) (its : List (Ent × Value)) (sa : Option Addr) (sc : Nat), k ≤ n ∧ i = .int .i64 k ∧ s = .slice sa m sc ∧ Hid (its.length = m) ∧ Hid (its.map (·.1) = sideOf (es.take k) d b) ∧ Hid (∀ p ∈ its, Key p.1.1 ∧ Reads w0 p.2 p.1.2) ∧ Hid (wr.ownsRow w.heap.size 62 33 (.slice sa m sc) m (flatP its)) ∧ Below w.heap.size w wr) (fun _ i _ => n - (intOf i).toNat)
  case atStart => exact ⟨0, 0, [], none, 0, by omega, rfl, rfl, rfl, rfl, fun p hp => by simp at hp, World.ownsRow_nil _ _ _ _, Below.refl _ _⟩
  case round =>
    obtain ⟨k, m, its, sa, sc, hk, rfl, rfl, hml, him, hia, hio, hbw⟩ := hrel
    by_cases hlt : k < n
    · have hlt' : k < es.length := by rw [← HN.out]; exact hlt
      obtain ⟨g, off, rfl, hcc⟩ := HC.out (by omega)
      have z1 : (k : Int) < (n : Int) := by omega
      have z0 : (0 : Int) ≤ (k : Int) := by omega
      obtain ⟨hkey, hrd⟩ := HR.out k hlt'
      have hst := side_step es k d b hlt'
      have hil : m ≤ 4096 := by
        have := congrArg List.length him.out
        rw [List.length_map, hml.out] at this
        rw [this]
        exact Nat.le_trans (List.length_filter_le _ _) (by simp; omega)
      have HCC : Hid (∀ w', Below w.heap.size w w' → w'.rangeAt g (off + k * 33) (encP (es.getD k e00).1 (V k))) := fun w' hw' => rng_grow (hcc k hlt') hw'
      have HBit : Hid (∀ w', Calls Tryz.prog 120 #[.agg (B (es.getD k e00).1), .int .i64 d] w' fun e w'' => e = .returned (.int .i64 (kbi (es.getD k e00).1 d)) ∧ Below w'.heap.size w' w'') := fun w' => rbit_any _ d w' hkey
      have HV1 := hidden (reads_one hrd)
      have HKY := hidden hkey
      have HRD := hidden hrd
      obtain ⟨E, hE⟩ : ∃ E, E = es.getD k e00 := ⟨_, rfl⟩
      obtain ⟨β, hβ⟩ : ∃ β, β = kbi E.1 d := ⟨_, rfl⟩
      rw [← hE] at hst HCC HBit HKY HRD
      rw [← hβ] at hst HBit
      clear hcc hkey hrd hlt' hE hβ
      by_cases hbb : β = b
      · have hb2 : (β == b) = true := by simp [hbb]
        rw [hb2, if_pos rfl] at hst
        have HIM : Hid ((its ++ [(E, V k)]).map (·.1) = sideOf (es.take (k + 1)) d b) := by
          show _ = _
          rw [hst, List.map_append, him.out]
          rfl
        have HIA : Hid (∀ p ∈ its ++ [(E, V k)], Key p.1.1 ∧ Reads w0 p.2 p.1.2) := by
          intro p hp
          rcases List.mem_append.1 hp with hp | hp
          · exact hia.out p hp
          · obtain rfl : p = (E, V k) := by simpa using hp
            exact ⟨HKY.out, HRD.out⟩
        clear hst hbb
        go_wp2_with (first
          | ((with_reducible refine at_ldd 19 18 ?_); refine wpList_ldk _ rfl _ rfl g (off + k * 33) E.1 rfl (rng_key (HCC.out _ hbw)) HKY.out.1 ?_)
          | (go_at_call 120; refine (HBit.out _).mono ?_; rintro e w2 ⟨rfl, q2⟩; have c2 := grow_trans hbw q2; have HIO := hidden (ownsP_below hio.out q2))
          | ((with_reducible refine at_ldd 28 27 ?_); refine wpList_ldp _ rfl _ rfl g (off + k * 33) E.1 (V k) rfl (HCC.out _ c2) HKY.out.1 ?_)
          | (refine wpList_bsp _ rfl _ rfl E.1 (V k) rfl HKY.out.1 ?_)
          | (at_builtin; refine wpList_appP _ rfl _ _ rfl w.heap.size _ m (flatP its) (HIO.out.alloc _) rfl w2.heap.size E.1 (V k) rfl (Blk.new _ _ _) HKY.out.1 HV1.out hil (Nat.le_trans c2.size (by simp)) ?_; intro v' w3 ho3 hg3))
        have c3 := below_own (grow_trans c2 (grow_alloc _ _)) (HIO.out.alloc _) (Nat.le_refl _) hg3
        rw [← flatP_snoc its (E, V k)] at ho3
        obtain ⟨sa', sc', rfl⟩ : ∃ sa' sc', v' = .slice sa' (m + 1) sc' := by
          rcases ho3.2 with ⟨e, e2⟩ | ⟨g', cap', cur, e, _⟩
          · omega
          · exact ⟨_, _, e⟩
        exact ⟨⟨k + 1, m + 1, its ++ [(E, V k)], sa', sc', by omega, by go_num, rfl, by show _ = _; rw [List.length_append, hml.out]; rfl, HIM, HIA, ho3, c3⟩, by simp [intOf]; omega⟩
      · have hb2 : (β == b) = false := by simp [hbb]
        rw [hb2, if_neg (by simp), List.append_nil] at hst
        have HIM : Hid (its.map (·.1) = sideOf (es.take (k + 1)) d b) := by
          show _ = _
          rw [hst, him.out]
        clear hst hbb
        go_wp2_with (first
          | ((with_reducible refine at_ldd 19 18 ?_); refine wpList_ldk _ rfl _ rfl g (off + k * 33) E.1 rfl (rng_key (HCC.out _ hbw)) HKY.out.1 ?_)
          | (go_at_call 120; refine (HBit.out _).mono ?_; rintro e w2 ⟨rfl, q2⟩; have c2 := grow_trans hbw q2; have HIO := hidden (ownsP_below hio.out q2)))
        exact ⟨⟨k + 1, m, its, sa, sc, by omega, by go_num, rfl, hml, HIM, hia, HIO, c2⟩, by simp [intOf]; omega⟩
    · have hkn : k = es.length := by rw [← HN.out]; omega
      have z1 : ¬ (k : Int) < (n : Int) := by omega
      rw [hkn, List.take_length] at him
      clear hkn
      go_wp2
      go_ret
      exact HPost.out _ _ _ him.out hia.out (by rw [hml.out]; exact hio.out) hbw


/-- Entries whose list lies in a block of which R holds; their values were there in w0. -/
def PrO (w0 w : World) (R : Nat → Prop) (v : Value) (its : List (Ent × Value)) : Prop :=
  (∀ p ∈ its, Key p.1.1 ∧ Reads w0 p.2 p.1.2) ∧ ∃ a cap, v = .slice a its.length cap ∧ its.length ≤ cap ∧
    (0 < its.length → ∃ g off, a = some ⟨g, off, none⟩ ∧ R g ∧ g < w.heap.size ∧ ∀ i, i < its.length → w.rangeAt g (off + i * 33) (encP (its.getD i (e00, undef)).1.1 (its.getD i (e00, undef)).2))

theorem PrO.kept {w0 w w' : World} {R : Nat → Prop} {v : Value} {its : List (Ent × Value)} {row : Option Nat} (h : PrO w0 w R v its) (hg : w.grownBy w' row) (hR : ∀ g, R g → some g ≠ row) : PrO w0 w' R v its := by
  obtain ⟨h1, a, cap, e, h2, h3⟩ := h
  refine ⟨h1, a, cap, e, h2, fun hp => ?_⟩
  obtain ⟨g, off, ea, hr, hlt, hc⟩ := h3 hp
  exact ⟨g, off, ea, hr, Nat.lt_of_lt_of_le hlt hg.size, fun i hi j u hu => hg.cell (a := ⟨g, off + i * 33 + j, none⟩) (hc i hi j u hu) (hR g hr)⟩
theorem PrO.grow {w0 w w' : World} {R : Nat → Prop} {v : Value} {its : List (Ent × Value)} (h : PrO w0 w R v its) (hb : Below w.heap.size w w') : PrO w0 w' R v its := by
  obtain ⟨h1, a, cap, e, h2, h3⟩ := h
  refine ⟨h1, a, cap, e, h2, fun hp => ?_⟩
  obtain ⟨g, off, ea, hr, hlt, hc⟩ := h3 hp
  exact ⟨g, off, ea, hr, Nat.lt_of_lt_of_le hlt hb.size, fun i hi => rng_grow (hc i hi) hb⟩
theorem PrO.imp {w0 w : World} {R R' : Nat → Prop} {v : Value} {its : List (Ent × Value)} (h : PrO w0 w R v its) (hR : ∀ g, g < w.heap.size → R g → R' g) : PrO w0 w R' v its := by
  obtain ⟨h1, a, cap, e, h2, h3⟩ := h
  refine ⟨h1, a, cap, e, h2, fun hp => ?_⟩
  obtain ⟨g, off, ea, hr, hlt, hc⟩ := h3 hp
  exact ⟨g, off, ea, hR g hlt hr, hlt, hc⟩
theorem getD_fst (its : List (Ent × Value)) (i : Nat) (hi : i < its.length) : (its.map (·.1)).getD i e00 = its[i].1 ∧ its.getD i (e00, undef) = its[i] := ⟨by simp [List.getD, hi], by simp [List.getD, hi]⟩
theorem PrO.at {w0 w : World} {R : Nat → Prop} {v : Value} {its : List (Ent × Value)} (h : PrO w0 w R v its) (hb : Below w0.heap.size w0 w) : PrAt w v (fun i => (its.getD i (e00, undef)).2) (its.map (·.1)) ∧ ∀ i, i < (its.map (·.1)).length → Reads w0 (its.getD i (e00, undef)).2 ((its.map (·.1)).getD i e00).2 := by
  obtain ⟨h1, a, cap, e, h2, h3⟩ := h
  have hk : ∀ i, i < (its.map (·.1)).length → Key ((its.map (·.1)).getD i e00).1 ∧ Reads w0 (its.getD i (e00, undef)).2 ((its.map (·.1)).getD i e00).2 := by
    intro i hi
    rw [List.length_map] at hi
    obtain ⟨e1, e2⟩ := getD_fst its i hi
    rw [e1, e2]
    exact h1 _ (List.getElem_mem hi)
  refine ⟨⟨a, cap, by rw [List.length_map]; exact e, by rw [List.length_map]; exact h2, fun hp => ?_, fun i hi => ⟨(hk i hi).1, (hk i hi).2.grow hb⟩⟩, fun i hi => (hk i hi).2⟩
  rw [List.length_map] at hp ⊢
  obtain ⟨g, off, ea, _, _, hc⟩ := h3 hp
  refine ⟨g, off, ea, fun i hi => ?_⟩
  obtain ⟨e1, e2⟩ := getD_fst its i hi
  have := hc i hi
  rw [e2] at this
  rw [e1]
  simp only [e2]
  exact this
/-- Entries that came in. -/
theorem PrO.of {w : World} {v : Value} {V : Nat → Value} {es : List Ent} (h : PrAt w v V es) : ∃ its, its.map (·.1) = es ∧ PrO w w (fun _ => True) v its := by
  have hk := h
  obtain ⟨a, cap, e, h1, h2, h3⟩ := h
  refine ⟨(List.range es.length).map fun i => (es.getD i e00, V i), ?_, ?_⟩
  · apply List.ext_getElem (by simp)
    intro i q1 q2
    simp [List.getD, q2]
  · refine ⟨fun p hp => ?_, a, cap, by simpa using e, by simpa using h1, fun hp => ?_⟩
    · obtain ⟨i, hi, rfl⟩ := List.mem_map.1 hp
      exact h3 i (List.mem_range.1 hi)
    · have hp' : 0 < es.length := by simpa using hp
      obtain ⟨g, off, ea, hc⟩ := h2 hp'
      refine ⟨g, off, ea, trivial, ?_, fun i hi => ?_⟩
      · have := hc 0 hp' 32 (V 0) (by unfold encP; rw [List.getElem?_append_right (by rw [List.length_map, (h3 0 hp').1.1]; exact Nat.le_refl _), List.length_map, (h3 0 hp').1.1]; rfl)
        exact block_lt_of_cell this
      · have hi' : i < es.length := by simpa using hi
        have := hc i hi'
        simpa [List.getD, hi'] using this
/-- Entries of the call's own. -/
theorem PrO.own {w0 w : World} {base : Nat} {v : Value} {its : List (Ent × Value)} (h : w.ownsRow base 62 33 v its.length (flatP its)) (hk : ∀ p ∈ its, Key p.1.1 ∧ Reads w0 p.2 p.1.2) : PrO w0 w (fun g => base ≤ g) v its := by
  rcases h.2 with ⟨rfl, hn⟩ | ⟨g, cap, cur, rfl, hb, hg, hcap, _, hsz, htake⟩
  · exact ⟨hk, none, 0, by rw [hn], by omega, fun hp => by omega⟩
  · refine ⟨hk, _, cap, rfl, hcap, fun _ => ⟨g, 0, rfl, hb, (Array.getElem?_eq_some_iff.1 hg).1, fun i hi j u hu => ?_⟩⟩
    obtain ⟨e1, e2⟩ := getD_fst its i hi
    rw [e2] at hu
    have h1 := flatP_at its (fun p hp => (hk p hp).1.1) i hi j u hu
    rw [← htake] at h1
    have h2 : (cur.toList)[i * 33 + j]? = some u := by
      rw [List.getElem?_take] at h1
      split at h1
      · exact h1
      · cases h1
    rw [cell_of_row w g _ cur _ _ hg, Nat.zero_add]
    simpa using h2

end Go.Proofs.YtdpaanidangnlaaGreatDoor

/- The document's Way, as a contract. -/
namespace Go.Proofs.YtdpaanidangnlaaGreatDoor
set_option maxRecDepth 20000
open Go.RowKit

end Go.Proofs.YtdpaanidangnlaaGreatDoor
