/- For StoreCounts: what follows of counts, with no word of the program; a map from numbers to numbers of the walk's own; Drop beside a list. -/
import Derived.Test.YtlhnodinhmdjnaaGreatDoorVt35
import Derived.Test.YtlhnodinhmdjnaaGreatDoorVt17
import Derived.Maps.OwnSet
import Derived.Maps.RangeWalk
import Derived.Maps.OwnOps
import Derived.Maps.Views
import Derived.Test.YtlhnodinhmdjnaaGreatDoorVt33
import Derived.Test.YtlhnodinhmdjnaaGreatDoorVt01
import Derived.Test.YtlhnodinhmdjnaaGreatDoorVt02
import Derived.Test.YtlhnodinhmdjnaaGreatDoorVt07
namespace Go.Proofs.YtlhnodinhmdjnaaGreatDoor
set_option maxRecDepth 20000
open Go.RowKit

/-! ### Counts -/
theorem noc_zero {cs : List (Nat × Ce)} (h : ∀ i, cc cs i = 0) : noc cs = 0 := by
  unfold noc occs
  rw [List.countP_eq_zero]
  intro p hp
  obtain ⟨i, hi, rfl⟩ := List.getElem_of_mem hp
  have hi' : i < cs.length := by simpa using hi
  have := h i
  simpa [cc, hi', pl] using this

/-- When callers hold nothing nothing is there. -/
theorem none_left {cs : List (Nat × Ce)} (w : Wf cs []) (h : ∀ i, own cs [] i = 0) : noc cs = 0 := by
  have up : ∀ i, 0 < cc cs i → ∃ j, 0 < cc cs j ∧ (ce cs j).kind = 2 ∧ ((ce cs i).kind = 2 → (ce cs i).dp = (ce cs j).dp + 1) := fun i hi => by
    have h1 := w.own i
    rw [List.count_nil, h i] at h1
    have h2 := w.ab i
    obtain ⟨j, hj, hs⟩ := ns_ex cs i (by omega)
    rcases w.tr j hj with hn | hn
    · have := hn.l; have := hn.r; omega
    · refine ⟨j, hj, hn.kind, fun hk => ?_⟩
      rcases hs with e | e
      · rcases hn.sl with q | ⟨_, _, _, q⟩
        · omega
        · rw [e, Nat.add_sub_cancel] at q
          omega
      · rcases hn.sr with q | ⟨_, _, _, q⟩
        · omega
        · rw [e, Nat.add_sub_cancel] at q
          omega
  have no2 : ∀ d i, 0 < cc cs i → (ce cs i).kind = 2 → (ce cs i).dp = d → False := by
    intro d
    induction d using Nat.strongRecOn with
    | _ d ih =>
      intro i hi hk hd
      obtain ⟨j, hj, hjk, hjd⟩ := up i hi
      have := hjd hk
      exact ih (ce cs j).dp (by omega) j hj hjk rfl
  refine noc_zero fun i => ?_
  apply Nat.eq_zero_of_not_pos
  intro hi
  obtain ⟨j, hj, hjk, _⟩ := up i hi
  exact no2 _ j hj hjk rfl

/-- How many sides of the first k of these nodes a handle is. -/
def fsum (cs : List (Nat × Ce)) (L : List Nat) (k : Nat) (x : Int) : Nat := ((L.take k).map fun h => (if ((ce cs (h - 1)).l : Int) = x then 1 else 0) + (if ((ce cs (h - 1)).r : Int) = x then 1 else 0)).sum
theorem fsum_zero (cs : List (Nat × Ce)) (L : List Nat) (x : Int) : fsum cs L 0 x = 0 := rfl
theorem fsum_succ (cs : List (Nat × Ce)) (L : List Nat) (k : Nat) (hk : k < L.length) (x : Int) : fsum cs L (k + 1) x = fsum cs L k x + ((if ((ce cs (L[k] - 1)).l : Int) = x then 1 else 0) + (if ((ce cs (L[k] - 1)).r : Int) = x then 1 else 0)) := by
  unfold fsum
  rw [List.take_succ_eq_append_getElem hk, List.map_append, List.sum_append]
  simp
theorem fsum_le (cs : List (Nat × Ce)) (L : List Nat) (x : Int) : ∀ k, fsum cs L k x ≤ 2 * k
  | 0 => by simp [fsum_zero]
  | k + 1 => by
    have ih := fsum_le cs L x k
    by_cases hk : k < L.length
    · rw [fsum_succ cs L k hk]
      split <;> split <;> omega
    · unfold fsum at *
      rw [List.take_of_length_le (by omega)]
      rw [List.take_of_length_le (by omega)] at ih
      omega

theorem slots_sum (cs : List (Nat × Ce)) (i : Nat) : ∀ k, k ≤ cs.length → ((slotsK (cs.map pl) k).map fun h => (if ((ce cs (h - 1)).l : Int) = (i : Int) + 1 then 1 else 0) + (if ((ce cs (h - 1)).r : Int) = (i : Int) + 1 then 1 else 0)).sum = ((cs.take k).map (con i)).sum
  | 0, _ => by simp [slotsK]
  | k + 1, hk => by
    have ih := slots_sum cs i k (by omega)
    have e : (cs.take (k + 1)).map (con i) = (cs.take k).map (con i) ++ [con i (cc cs k, ce cs k)] := by
      rw [List.take_succ_eq_append_getElem (by omega), List.map_append]
      have : cs[k] = (cc cs k, ce cs k) := by simp [cc, ce, show k < cs.length by omega]
      rw [this]
      rfl
    rw [e, List.sum_append]
    by_cases hc : 0 < cnt (cs.map pl) k
    · rw [slotsK_yes _ k hc, List.map_append, List.sum_append, ih]
      rw [cnt_pl] at hc
      simp only [List.map_cons, List.map_nil, List.sum_cons, List.sum_nil, Nat.add_zero, Nat.add_sub_cancel, con, if_pos hc]
      congr 2
      · congr 1
        simp only [eq_iff_iff]
        omega
      · congr 1
        simp only [eq_iff_iff]
        omega
    · rw [slotsK_no _ k hc, ih]
      rw [cnt_pl] at hc
      simp [con, hc]
theorem fsum_all (cs : List (Nat × Ce)) (i : Nat) : fsum cs (slotsOf (cs.map pl)) (slotsOf (cs.map pl)).length ((i : Int) + 1) = ns cs i := by
  unfold fsum ns
  rw [List.take_length]
  have := slots_sum cs i cs.length (Nat.le_refl _)
  rw [List.take_length] at this
  unfold slotsOf
  rw [List.length_map]
  exact this

theorem slot_at {cs : List (Nat × Ce)} (k : Nat) (hk : k < (slotsOf (cs.map pl)).length) : ∃ i, (slotsOf (cs.map pl))[k] = i + 1 ∧ 0 < cc cs i := by
  obtain ⟨i, e, h⟩ := (slots_mem (cs.map pl) _).1 (List.getElem_mem hk)
  rw [cnt_pl] at h
  exact ⟨i, e, h⟩
theorem slot_all {cs : List (Nat × Ce)} (i : Nat) (hi : 0 < cc cs i) : ∃ k, ∃ hk : k < (slotsOf (cs.map pl)).length, (slotsOf (cs.map pl))[k] = i + 1 := by
  have : i + 1 ∈ slotsOf (cs.map pl) := (slots_mem _ _).2 ⟨i, rfl, by rw [cnt_pl]; exact hi⟩
  obtain ⟨k, hk, e⟩ := List.getElem_of_mem this
  exact ⟨k, hk, e⟩

/-- Every block of a store is one of cells. -/
theorem Stm.cells {w : World} {g gs : Nat} {vp vf : Value} {room : Nat} {cs : List (Nat × Ce)} {fr : List Nat} (h : Stm w g gs vp vf room cs fr) : ∀ k ∈ stB g gs vp vf cs, ∃ t c, Blk w k t c := fun k hk => by
  rcases stB_mem.1 hk with rfl | hk | ⟨i, hk⟩
  · exact ⟨_, _, h.blk⟩
  · rcases slB_mem.1 hk with rfl | hk | hk
    · exact ⟨_, _, h.sl.blk⟩
    · obtain ⟨_, _, _, b, _⟩ := lst_blk h.sl.pls k hk
      exact ⟨_, _, b⟩
    · obtain ⟨_, _, _, b, _⟩ := lst_blk h.sl.frs k hk
      exact ⟨_, _, b⟩
  · obtain ⟨sp, ho⟩ := h.vals i
    obtain ⟨c, hb⟩ := ho.blk k hk
    exact ⟨_, _, hb⟩

/-- A map's writing leaves a store. -/
theorem Hw.map {w0 w w' : World} {g gs room : Nat} {cs : List (Nat × Ce)} {fr : List Nat} {b n : Nat} {f : Int → Nat} (h : Hw w0 w g gs room cs fr) (m : SM w b n f) (hg : w.grownBy w' (some b)) (hb : w0.heap.size ≤ b) : Hw w0 w' g gs room cs fr := by
  obtain ⟨⟨vp, vf, h1, h2, h3⟩, h4⟩ := h
  have md : Mod [b] w w' := Mod.of_some hg (by simp)
  refine ⟨⟨vp, vf, h1.mod md (fun k hk e => ?_), h2, h3.trans (md.below (fun k hk => by simp at hk; omega) h3.size)⟩, h4⟩
  obtain ⟨t, c, hB⟩ := h1.cells k hk
  have e' : k = b := by simpa using e
  exact m.notCells hB e'.symm

/-! ### A list beside a store -/
theorem Run.tot_le {cs : List (Nat × Ce)} {fr st : List Nat} {cs' : List (Nat × Ce)} {fr' : List Nat} {n : Nat} (h : Run cs fr st cs' fr' n) : tot cs' + min st.length 1 ≤ tot cs := by
  induction h with
  | done cs fr => simp
  | keep hc _ ih =>
    have := tot_less _ _ (Nat.lt_trans Nat.zero_lt_one hc)
    simp only [List.length_cons]
    omega
  | free hc _ ih =>
    have := tot_free _ _ hc
    simp only [List.length_cons]
    omega

theorem Dl.drop {w : World} {S : List Nat} {g gs room : Nat} {cs : List (Nat × Ce)} {fr : List Nat} {v : Value} {xs : List Nat} {X : List (Nat × Obj)} {wr : World} (h : Dl w S g gs room cs fr v xs X wr) (hw : Wf cs []) (i : Nat) (ho : 0 < own cs [] i) : Calls Tryz.prog 32 #[.pointer (some ⟨g, 0, none⟩), .int .i64 ((i + 1 : Nat) : Int)] wr fun e w' => ∃ cs' fr' n, Step cs [i + 1] cs' [] n ∧ tot cs' < tot cs ∧ e = .returned (.tuple #[.int .i64 (n : Int), .int .i64 0]) ∧ Dl w S g gs room cs' fr' v xs X w' := by
  obtain ⟨vp, vf, h1, h2, h3, h4, h5, h6⟩ := h
  refine (dropS_ok h1 hw i ho).mono ?_
  rintro e w' ⟨cs', fr', n, hr, rfl, vp', vf', k1, k2, k3⟩
  have htl := hr.tot_le
  simp only [List.length_singleton] at htl
  refine ⟨cs', fr', n, hr.step (hw.less i ho), by omega, rfl, vp', vf', k1, h2.trans h3 k2, h3.trans h2.size k3, lst_mod h4 k2 (fun k hk => (h5 k hk).2), fun k hk => ⟨(h5 k hk).1, fun e => ?_⟩, fun x hx => ?_⟩
  · rcases k3 k e with e | e
    · exact (h5 k hk).2 e
    · have := lst_lt h4 k hk
      omega
  · obtain ⟨q1, q2, q3⟩ := h6 x hx
    have hlt := (Array.getElem?_eq_some_iff.1 q1).1
    refine ⟨(k2.block x.1 hlt q2).trans q1, fun e => ?_, q3⟩
    rcases k3 x.1 e with e | e
    · exact q2 e
    · omega

theorem Dl.vw {w : World} {S : List Nat} {g gs room : Nat} {cs : List (Nat × Ce)} {fr : List Nat} {v : Value} {xs : List Nat} {X : List (Nat × Obj)} {wr : World} (h : Dl w S g gs room cs fr v xs X wr) (hw : Wf cs []) : Vw wr (.pointer (some ⟨g, 0, none⟩)) true (cot cs) (cat cs) := by
  obtain ⟨vp, vf, h1, _⟩ := h
  exact vw_ok h1 hw
theorem Dl.occ {w : World} {S : List Nat} {g gs room : Nat} {cs : List (Nat × Ce)} {fr : List Nat} {v : Value} {xs : List Nat} {X : List (Nat × Obj)} {wr : World} (h : Dl w S g gs room cs fr v xs X wr) : Calls Tryz.prog 34 #[.pointer (some ⟨g, 0, none⟩)] wr fun e w' => e = .returned (.int .i64 (noc cs : Int)) ∧ Below wr.heap.size wr w' := by
  obtain ⟨vp, vf, h1, _⟩ := h
  exact occS_ok h1

/-! ### Any call, whatever it answers -/
theorem hw_leaf_any {w0 w : World} {g gs room : Nat} {cs : List (Nat × Ce)} {fr : List Nat} (h : Hw w0 w g gs room cs fr) (K : List Int) (v : Value) (bs : List Int) (hr : Reads w v bs) (hK : Key K) (hL : Laid w) (hm : bs.length ≤ 140737488355328) : Calls Tryz.prog 97 #[.pointer (some ⟨g, 0, none⟩), .agg (B K), v] w fun e w' => ∃ a b cs' fr', e = .returned (.tuple #[.int .i64 a, .int .i64 b]) ∧ Hw w0 w' g gs room cs' fr' := by
  by_cases hl : bs.length ≤ 1024
  · by_cases hf : Full room cs fr
    · exact (hw_leaf_full h K v bs hr hK hL hl hf).mono fun e w' ⟨e1, q⟩ => ⟨_, _, _, _, e1, q⟩
    · exact (hw_leaf h K v bs hr hK hL hl hf).mono fun e w' ⟨v', e1, q⟩ => ⟨_, _, _, _, e1, q⟩
  · exact (hw_leaf_long h K v bs hr hK (by omega) hm).mono fun e w' ⟨e1, q⟩ => ⟨_, _, _, _, e1, q⟩

theorem hw_inner_any {w0 w : World} {g gs room : Nat} {cs : List (Nat × Ce)} {fr : List Nat} (h : Hw w0 w g gs room cs fr) (d l r : Int) (hL : Laid w) : Calls Tryz.prog 99 #[.pointer (some ⟨g, 0, none⟩), .int .i64 d, .int .i64 l, .int .i64 r] w fun e w' => ∃ a b cs' fr', e = .returned (.tuple #[.int .i64 a, .int .i64 b]) ∧ Hw w0 w' g gs room cs' fr' := by
  by_cases hd : d < 0 ∨ 256 ≤ d
  · exact (hw_inner_arg h d l r hd).mono fun e w' ⟨e1, q⟩ => ⟨_, _, _, _, e1, q⟩
  · obtain ⟨dn, rfl⟩ : ∃ n : Nat, d = (n : Int) := ⟨d.toNat, by omega⟩
    have hdn : dn < 256 := by omega
    by_cases hm : mayP cs l ∧ mayP cs r
    · obtain ⟨hl, hr⟩ := hm
      obtain ⟨ln, rfl⟩ := hl.nat
      obtain ⟨rn, rfl⟩ := hr.nat
      obtain ⟨u, hu⟩ : ∃ u : Bool, u = true ↔ Und (sdC cs ln).key (sdC cs rn).key (dn : Int) := by
        by_cases q : Und (sdC cs ln).key (sdC cs rn).key (dn : Int)
        · exact ⟨true, by simp [q]⟩
        · exact ⟨false, by simp [q]⟩
      cases hf : fitP dn (sdC cs ln) (sdC cs rn) u with
      | false => exact (hw_inner_unfit h dn ln rn hdn hl hr u hu hf).mono fun e w' ⟨e1, q⟩ => ⟨_, _, _, _, e1, q⟩
      | true =>
        by_cases hfu : Full room cs fr
        · exact (hw_inner_full h dn ln rn hdn hl hr u hu hf hL hfu).mono fun e w' ⟨e1, q⟩ => ⟨_, _, _, _, e1, q⟩
        · exact (hw_inner h dn ln rn hdn hl hr u hu hf hL hfu).mono fun e w' ⟨K, _, e1, q⟩ => ⟨_, _, _, _, e1, q⟩
    · exact (hw_inner_miss h dn l r hdn hm).mono fun e w' ⟨e1, q⟩ => ⟨_, _, _, _, e1, q⟩

theorem hw_hold_any {w0 w : World} {g gs room : Nat} {cs : List (Nat × Ce)} {fr : List Nat} (h : Hw w0 w g gs room cs fr) (q : Int) : Calls Tryz.prog 96 #[.pointer (some ⟨g, 0, none⟩), .int .i64 q] w fun e w' => ∃ a cs' fr', e = .returned (.int .i64 a) ∧ Hw w0 w' g gs room cs' fr' := by
  by_cases hc : cot cs q = 0
  · exact (hw_hold_bad h q hc).mono fun e w' ⟨e1, q⟩ => ⟨_, _, _, e1, q⟩
  · obtain ⟨i, rfl, h2, h3, h4⟩ := cot_in (cs := cs) (h := q) (by omega)
    have hmo := h.inv.most i
    rw [cnt_pl] at hmo
    by_cases hl : cc cs i = 1073741824
    · exact (hw_hold_long h i hl).mono fun e w' ⟨e1, q⟩ => ⟨_, _, _, e1, q⟩
    · exact (hw_hold h i h2 (by omega)).mono fun e w' ⟨e1, q⟩ => ⟨_, _, _, e1, q⟩

theorem hw_drop_any {w0 w : World} {g gs room : Nat} {cs : List (Nat × Ce)} {fr : List Nat} (h : Hw w0 w g gs room cs fr) (q : Int) : Calls Tryz.prog 32 #[.pointer (some ⟨g, 0, none⟩), .int .i64 q] w fun e w' => ∃ a b cs' fr', e = .returned (.tuple #[.int .i64 a, .int .i64 b]) ∧ Hw w0 w' g gs room cs' fr' := by
  by_cases hm : cot cs q ≤ (cat cs q).ab
  · exact (hw_drop_miss h q hm).mono fun e w' ⟨e1, q⟩ => ⟨_, _, _, _, e1, q⟩
  · obtain ⟨i, rfl, h2, h3, h4⟩ := cot_in (cs := cs) (h := q) (by omega)
    rw [h3, h4] at hm
    have ho : 0 < own cs [] i := by
      unfold own
      rw [List.count_nil]
      omega
    exact (hw_drop h i ho).mono fun e w' ⟨cs', fr', n, _, _, e1, q⟩ => ⟨_, _, _, _, e1, q⟩

end Go.Proofs.YtlhnodinhmdjnaaGreatDoor

/- Versions whose names, and one root of a caller, are all that holds nodes: each call told so. -/
namespace Go.Proofs.YtlhnodinhmdjnaaGreatDoor
set_option maxRecDepth 20000
open Go.RowKit

/-- How many names a node has. -/
def nct (ms : Nms) (j : Nat) : Nat := ms.countP (fun p => p.2 == j + 1)
theorem nmPut_new {ms : Nms} {k : List UInt8} (h : nmHas ms k = false) (v : Nat) : nmPut ms k v = (k, v) :: ms := by
  show (k, v) :: nmDel ms k = _
  rw [nmDel_none h]
theorem nct_put {ms : Nms} {k : List UInt8} (h : nmHas ms k = false) (v j : Nat) : nct (nmPut ms k v) j = nct ms j + (if v = j + 1 then 1 else 0) := by
  rw [nmPut_new h, nct, List.countP_cons]
  simp only [beq_iff_eq]
  rfl
theorem nct_pos {ms : Nms} {k : List UInt8} {j : Nat} (h : (k, j + 1) ∈ ms) : 0 < nct ms j := List.countP_pos_iff.2 ⟨_, h, by simp⟩
theorem nct_del : ∀ {ms : Nms} {k : List UInt8} {v : Nat}, (ms.map (·.1)).Nodup → (k, v) ∈ ms → ∀ j, nct (nmDel ms k) j + (if v = j + 1 then 1 else 0) = nct ms j
  | [], _, _, _, h, _ => by cases h
  | p :: ms, k, v, hn, h, j => by
    rw [List.map_cons, List.nodup_cons] at hn
    rcases List.mem_cons.1 h with e | h
    · subst e
      have h0 : nmHas ms k = false := by
        rw [Bool.eq_false_iff]
        exact fun q => hn.1 (nmHas_iff.1 q)
      have e1 : nmDel ((k, v) :: ms) k = ms := by
        have e0 : nmDel ((k, v) :: ms) k = nmDel ms k := by simp [nmDel]
        rw [e0, nmDel_none h0]
      rw [e1, nct, nct, List.countP_cons]
      simp only [beq_iff_eq]
    · have hne : p.1 ≠ k := fun e => hn.1 (e ▸ List.mem_map.2 ⟨_, h, rfl⟩)
      have e1 : nmDel (p :: ms) k = p :: nmDel ms k := by simp [nmDel, hne]
      have := nct_del hn.2 h j
      rw [e1]
      unfold nct at *
      rw [List.countP_cons, List.countP_cons]
      omega
theorem nmDel_mem {ms : Nms} {k : List UInt8} {p : List UInt8 × Nat} : p ∈ nmDel ms k ↔ p ∈ ms ∧ p.1 ≠ k := by
  unfold nmDel
  rw [List.mem_filter]
  simp

theorem rt_tree {cs cs' : List (Nat × Ce)} {x : Nat} {T : Tre} (r : Rt cs x T) (h9 : IsT cs' x T) (ho : x = 0 ∨ 0 < own cs' [] (x - 1)) : Rt cs' x T := by
  refine ⟨h9, fun q => ?_, ho⟩
  have h4 := r.dp
  match T, r.tree, h9 with
  | .emp, e, _ => exact absurd q (by rw [sdC, if_pos (show x = 0 from e)]; show ¬ zc.kind = 2; decide)
  | .lf _ _, _, e => have := e.1; rw [sdC, if_neg (by omega)] at q; have := e.2.2.1; omega
  | .nd d _ _ _ _, e0, e =>
    have h1 := e.1
    have hk : (sdC cs x).kind = 2 := by rw [sdC, if_neg (by omega)]; exact e0.2.2.1
    have := h4 hk
    rw [sdC, if_neg (by omega)] at this ⊢
    rw [e.2.2.2.1, ← e0.2.2.2.1]
    exact this
theorem rt_stay {cs cs' : List (Nat × Ce)} (W : Wf cs' []) (k : ∀ i, 0 < cc cs' i → 0 < cc cs i ∧ Core (ce cs i) (ce cs' i)) {x : Nat} {T : Tre} (r : Rt cs x T) (ho : x = 0 ∨ 0 < own cs' [] (x - 1)) : Rt cs' x T :=
  rt_tree r (r.tree.stay W k (ho.imp id (fun h => by unfold own at h; omega))) ho
theorem rt_more14 {cs : List (Nat × Ce)} (W : Wf cs []) {i : Nat} (hi : 0 < cc cs i) {x : Nat} {T : Tre} (r : Rt cs x T) : Rt (moreC cs i) x T := by
  have hk : ∀ j, 0 < cc cs j → 0 < cc (moreC cs i) j ∧ Core (ce cs j) (ce (moreC cs i) j) := fun j hj => by
    rw [moreC_cc hi, moreC_ce]
    exact ⟨by omega, rfl⟩
  refine rt_tree r (r.tree.keep hk) (r.own.imp id (fun h => ?_))
  have := W.le (x - 1)
  unfold own at h ⊢
  rw [moreC_cc hi, moreC_ce]
  omega
theorem own_more14 {cs : List (Nat × Ce)} (W : Wf cs []) {i : Nat} (hi : 0 < cc cs i) (j : Nat) : own (moreC cs i) [] j = own cs [] j + (if i = j then 1 else 0) := by
  have := W.le j
  unfold own
  rw [moreC_cc hi, moreC_ce]
  omega
theorem own_less14 {cs cs' : List (Nat × Ce)} {i n : Nat} (W : Wf cs []) (st : Step cs [i + 1] cs' [] n) (j : Nat) : own cs' [] j = own cs [] j - (if i = j then 1 else 0) := by
  have h1 := st.own j
  have h2 := W.le j
  rw [h1]
  unfold own
  rw [List.count_nil]
  by_cases e : i = j
  · subst e
    simp
    omega
  · rw [if_neg e, List.count_cons, List.count_nil, if_neg (by simpa using fun h => e (by omega))]
    omega

/-- G of one name more. -/
def upG (G : List UInt8 → Tre) (k : List UInt8) (T : Tre) : List UInt8 → Tre := fun x => if x = k then T else G x

/-- Names ms with their trees G, and a caller's root hd with its tree T: nothing else holds a node. -/
structure Sv (w1 w : World) (X : List Nat) (gv b g gs R : Nat) (ms : Nms) (G : List UInt8 → Tre) (hd : Nat) (T : Tre) (cs : List (Nat × Ce)) (fr : List Nat) : Prop where
  hv : Hv w1 w X gv b g gs R ms cs fr
  own : ∀ j, own cs [] j = nct ms j + (if hd = j + 1 then 1 else 0)
  rt : Rt cs hd T
  rts : ∀ p ∈ ms, Rt cs p.2 (G p.1)
  few : ms.length ≤ 16

section
variable {w1 w : World} {X : List Nat} {gv b g gs R : Nat} {ms : Nms} {G : List UInt8 → Tre} {hd : Nat} {T : Tre} {cs : List (Nat × Ce)} {fr : List Nat}

theorem Sv.grow {w' : World} (h : Sv w1 w X gv b g gs R ms G hd T cs fr) (hb : Below w.heap.size w w') : Sv w1 w' X gv b g gs R ms G hd T cs fr := ⟨h.hv.grow hb, h.own, h.rt, h.rts, h.few⟩
theorem Sv.low (h : Sv w1 w X gv b g gs R ms G hd T cs fr) : Below w1.heap.size w1 w := h.hv.low
theorem Sv.wf (h : Sv w1 w X gv b g gs R ms G hd T cs fr) : Wf cs [] := h.hv.wf
theorem Sv.ownLe (h : Sv w1 w X gv b g gs R ms G hd T cs fr) (i : Nat) : Go.Proofs.YtlhnodinhmdjnaaGreatDoor.own cs [] i ≤ 17 := by
  rw [h.own]
  have h1 : nct ms i ≤ ms.length := List.countP_le_length
  have := h.few
  split <;> omega
theorem Sv.small (h : Sv w1 w X gv b g gs R ms G hd T cs fr) (i : Nat) : cc cs i < 1073741824 := by
  have h1 := h.wf.ccLe i 17 (h.ownLe i)
  obtain ⟨S, hs, _⟩ := h.hv.hs
  have := hs.sizes
  omega
theorem Sv.occ (h : Sv w1 w X gv b g gs R ms G hd T cs fr) (h0 : 0 < hd) : 0 < cc cs (hd - 1) := (h.rt.tree.occ.resolve_left (by omega)).2

theorem sv_add {s : ByteArray} (h : Sv w1 w X gv b g gs R ms G hd T cs fr) (hn : nmOk s = true) (ht : nmHas ms s.data.toList = false) (hl : ms.length < 16) : Calls Tryz.prog 27 #[.pointer (some ⟨gv, 0, none⟩), .string s, .int .i64 (hd : Int)] w fun e w' => ∃ cs', e = .returned (.int .i64 0) ∧ Sv w1 w' X gv b g gs R (nmPut ms s.data.toList hd) (upG G s.data.toList T) hd T cs' fr ∧ noc cs' = noc cs ∧ cs'.length = cs.length ∧ Kx X b w w' := by
  have hrt : ∀ cs' : List (Nat × Ce), Rt cs' hd T → (∀ p ∈ ms, Rt cs' p.2 (G p.1)) → ∀ p ∈ nmPut ms s.data.toList hd, Rt cs' p.2 (upG G s.data.toList T p.1) := fun cs' r1 r2 p hp => by
    rw [nmPut_new ht] at hp
    rcases List.mem_cons.1 hp with rfl | hp
    · simpa [upG] using r1
    · have : p.1 ≠ s.data.toList := fun e => by
        have : nmHas ms s.data.toList = true := nmHas_iff.2 (List.mem_map.2 ⟨p, hp, e⟩)
        rw [ht] at this
        cases this
      rw [upG, if_neg this]
      exact r2 p hp
  have hlen : (nmPut ms s.data.toList hd).length ≤ 16 := by
    rw [nmPut_new ht, List.length_cons]
    omega
  cases hd with
  | zero =>
    refine (vadd_zero h.hv hn ht hl).mono ?_
    rintro e w' ⟨rfl, k1, k2⟩
    refine ⟨cs, rfl, ⟨k1, fun j => ?_, h.rt, hrt cs h.rt h.rts, hlen⟩, rfl, rfl, k2⟩
    rw [nct_put ht, h.own]
    simp
  | succ i =>
    have hc := h.occ (by omega)
    have hr := h.rt.root
    rw [show i + 1 - 1 = i from rfl] at hc
    rw [show (((i + 1 : Nat)) : Int) = (i : Int) + 1 from by push_cast; rfl] at hr ⊢
    refine (vadd_ok h.hv hn i hr hc (h.small i) ht hl).mono ?_
    rintro e w' ⟨rfl, k1, k2⟩
    refine ⟨moreC cs i, rfl, ⟨k1, fun j => ?_, rt_more14 h.wf hc h.rt, hrt _ (rt_more14 h.wf hc h.rt) (fun p hp => rt_more14 h.wf hc (h.rts p hp)), hlen⟩, moreC_noc hc, moreC_len _ _, k2⟩
    rw [nct_put ht, own_more14 h.wf hc, h.own]
    have e : (i = j) = (i + 1 = j + 1) := by simp
    simp only [e]
theorem sv_there {s : ByteArray} (h : Sv w1 w X gv b g gs R ms G hd T cs fr) (hn : nmOk s = true) (ht : nmHas ms s.data.toList = true) : Calls Tryz.prog 27 #[.pointer (some ⟨gv, 0, none⟩), .string s, .int .i64 (hd : Int)] w fun e w' => e = .returned (.int .i64 6) ∧ Below w.heap.size w w' := vadd_there h.hv (by have := nmOk_le hn; unfold maxLen; omega) hn _ h.rt.root ht
theorem sv_many {s : ByteArray} (h : Sv w1 w X gv b g gs R ms G hd T cs fr) (hn : nmOk s = true) (ht : nmHas ms s.data.toList = false) (hl : 16 ≤ ms.length) : Calls Tryz.prog 27 #[.pointer (some ⟨gv, 0, none⟩), .string s, .int .i64 (hd : Int)] w fun e w' => e = .returned (.int .i64 8) ∧ Below w.heap.size w w' := vadd_many h.hv (by have := nmOk_le hn; unfold maxLen; omega) hn _ h.rt.root ht hl

/-- A caller lets its root go. -/
theorem sv_let (h : Sv w1 w X gv b g gs R ms G hd T cs fr) (h0 : 0 < hd) : Calls Tryz.prog 32 #[.pointer (some ⟨g, 0, none⟩), .int .i64 (hd : Int)] w fun e w' => ∃ cs' fr' n, e = .returned (.tuple #[.int .i64 ((n : Nat) : Int), .int .i64 0]) ∧ Sv w1 w' X gv b g gs R ms G 0 .emp cs' fr' ∧ noc cs' + n = noc cs ∧ cs'.length = cs.length ∧ Kx X b w w' := by
  obtain ⟨i, rfl⟩ : ∃ i, hd = i + 1 := ⟨hd - 1, by omega⟩
  have ho : 0 < own cs [] i := by rw [h.own, if_pos rfl]; omega
  obtain ⟨S, hs, _, hk⟩ := h.hv.hs
  refine (hs_drop hs i ho).mono ?_
  rintro e w' ⟨cs', fr', n, r, st, rfl, h'⟩
  obtain ⟨k1, k2⟩ := hk _ _ _ h'
  have hown : ∀ j, own cs' [] j = nct ms j := fun j => by
    rw [own_less14 h.wf st, h.own]
    have e : (i = j) = (i + 1 = j + 1) := by simp
    simp only [e]
    omega
  refine ⟨cs', fr', n, rfl, ⟨k1, fun j => by rw [hown]; simp, Rt.zero _, fun p hp => rt_stay st.wf st.keep (h.rts p hp) ?_, h.few⟩, st.noc, st.len, k2 b⟩
  by_cases e : p.2 = 0
  · exact .inl e
  · refine .inr ?_
    rw [hown]
    exact nct_pos (k := p.1) (by rw [show p.2 - 1 + 1 = p.2 by omega]; exact hp)

/-- A name is let go. -/
theorem sv_drop {s : ByteArray} (hs : s.size ≤ maxLen) {v : Nat} (h : Sv w1 w X gv b g gs R ms G hd T cs fr) (hv : (s.data.toList, v) ∈ ms) : Calls Tryz.prog 33 #[.pointer (some ⟨gv, 0, none⟩), .string s] w fun e w' => ∃ n : Int, e = .returned (.tuple #[.int .i64 n, .int .i64 0]) ∧ ∃ cs' fr' m, n = ((m : Nat) : Int) ∧ Sv w1 w' X gv b g gs R (nmDel ms s.data.toList) G hd T cs' fr' ∧ noc cs' + m = noc cs ∧ cs'.length = cs.length ∧ Kx X b w w' := by
  have hnd : (ms.map (·.1)).Nodup := by
    obtain ⟨D, _, hv⟩ := h.hv.vm
    exact hv.nd
  have hct := nct_del hnd hv
  have hlen : (nmDel ms s.data.toList).length ≤ 16 := Nat.le_trans (List.length_filter_le _ _) h.few
  refine vdrop_go h.hv hs hv (Q := fun n w' => ∃ cs' fr' m, n = ((m : Nat) : Int) ∧ Sv w1 w' X gv b g gs R (nmDel ms s.data.toList) G hd T cs' fr' ∧ noc cs' + m = noc cs ∧ cs'.length = cs.length ∧ Kx X b w w') fun w' h' k' => ?_
  have hsub : ∀ p ∈ nmDel ms s.data.toList, p ∈ ms := fun p hp => (nmDel_mem.1 hp).1
  cases v with
  | zero =>
    refine (vgo_zero h').mono ?_
    rintro e w'' ⟨rfl, k1, k2⟩
    refine ⟨0, rfl, cs, fr, 0, rfl, ⟨k1, fun j => ?_, h.rt, fun p hp => h.rts p (hsub p hp), hlen⟩, rfl, rfl, k'.trans k2⟩
    rw [h.own]
    have := hct j
    simp at this
    omega
  | succ i =>
    have ho : 0 < own cs [] i := by
      rw [h.own]
      have := nct_pos hv
      omega
    refine (vgo_ok h' i ho).mono ?_
    rintro e w'' ⟨cs', fr', n, r, st, rfl, k1, k2⟩
    have hown : ∀ j, own cs' [] j = nct (nmDel ms s.data.toList) j + (if hd = j + 1 then 1 else 0) := fun j => by
      rw [own_less14 h.wf st, h.own]
      have := hct j
      have e : (i = j) = (i + 1 = j + 1) := by simp
      simp only [e]
      omega
    refine ⟨n, rfl, cs', fr', n, rfl, ⟨k1, hown, rt_stay st.wf st.keep h.rt ?_, fun p hp => rt_stay st.wf st.keep (h.rts p (hsub p hp)) ?_, hlen⟩, st.noc, st.len, k'.trans k2⟩
    · by_cases e : hd = 0
      · exact .inl e
      · refine .inr ?_
        rw [hown, if_pos (by omega)]
        omega
    · by_cases e : p.2 = 0
      · exact .inl e
      · refine .inr ?_
        rw [hown]
        have := nct_pos (ms := nmDel ms s.data.toList) (k := p.1) (j := p.2 - 1) (by rw [show p.2 - 1 + 1 = p.2 by omega]; exact hp)
        omega

/-- Nothing is left. -/
theorem Sv.none (h : Sv w1 w X gv b g gs R [] G 0 T cs fr) : noc cs = 0 := none_left h.wf fun i => by rw [h.own]; rfl
/-- What has a name or a caller is there. -/
theorem Sv.some (h : Sv w1 w X gv b g gs R ms G hd T cs fr) {k : List UInt8} {i : Nat} (hm : (k, i + 1) ∈ ms) : 0 < noc cs := by
  have h1 := (h.rts _ hm).tree.occ.resolve_left (by simp)
  have h2 : i + 1 - 1 = i := rfl
  rw [h2] at h1
  have h3 := cc_lt h1.2
  have h4 := occs_set (cs.map pl) i (0, []) (by rw [List.length_map]; exact h3)
  rw [cnt_pl, if_pos h1.2, if_neg (by simp)] at h4
  unfold noc
  omega
end

end Go.Proofs.YtlhnodinhmdjnaaGreatDoor

/- The statements' SameInts. -/
namespace Go.Proofs.YtlhnodinhmdjnaaGreatDoor
set_option maxRecDepth 20000
open Go.RowKit

/-- v reads as these numbers. -/
def Ns (w : World) (v : Value) (ss : List Int) : Prop := ∃ a c, v = .slice a ss.length c ∧ (0 < ss.length → ∃ g o, a = some ⟨g, o, none⟩ ∧ ∀ i, i < ss.length → w.cell? ⟨g, o + i, none⟩ = some (.int .i64 (ss[i]?.getD 0)))
theorem Ns.grow {w w' : World} {v : Value} {ss : List Int} (h : Ns w v ss) (hb : Below w.heap.size w w') : Ns w' v ss := by
  obtain ⟨a, c, e, h⟩ := h
  refine ⟨a, c, e, fun hp => ?_⟩
  obtain ⟨g, o, e1, h1⟩ := h hp
  exact ⟨g, o, e1, fun i hi => below_cell hb (h1 i hi)⟩
theorem ns_own {w : World} {base : Nat} {v : Value} {ss : List Nat} (h : w.ownsRow base 3 1 v ss.length (nats ss)) : Ns w v (ss.map fun (s : Nat) => (s : Int)) := by
  rcases h.2 with ⟨rfl, h0⟩ | ⟨g, cap, cur, rfl, _⟩
  · exact ⟨none, 0, by simp [h0], fun hp => by simp at hp; omega⟩
  · refine ⟨some ⟨g, 0, none⟩, cap, by simp, fun hp => ⟨g, 0, rfl, fun i hi => ?_⟩⟩
    simp only [List.length_map] at hi
    rw [Nat.zero_add, h.cellAt i (by omega)]
    simp [nats, hi]

set_option maxHeartbeats 1000000 in
theorem sameInts_any (x y : Value) (xs ys : List Int) (w : World) (hx : Ns w x xs) (hy : Ns w y ys) (hl2 : ys.length ≤ 1048576) : Calls Tryz.prog 38 #[x, y] w fun e w' => e = .returned (.bool (decide (xs = ys))) ∧ Below w.heap.size w w' := by
  obtain ⟨xa, xc, rfl, hx⟩ := hx
  obtain ⟨ya, yc, rfl, hy⟩ := hy
  by_cases hlen : xs.length = ys.length
  · have HX := hidden hx
    have HY := hidden hy
    rw [hlen]
    rw [hlen] at HX
    obtain ⟨n, hn⟩ : ∃ n, n = ys.length := ⟨_, rfl⟩
    rw [← hn] at HX HY hl2 ⊢
    have HN := hidden hn
    have HNX : Hid (xs.length = n) := by show _ = _; omega
    clear hx hy hlen hn
    go_enter Tryz.func38, Tryz.ntmps38
    go_wp2_with fail
    go_loopw [5] (fun i wr => ∃ k : Nat, k ≤ n ∧ i = .int .i64 k ∧ Hid (xs.take k = ys.take k) ∧ Below w.heap.size w wr) (fun i _ => n - (intOf i).toNat)
    case atStart => exact ⟨0, by omega, rfl, by show _ = _; simp, Below.refl _ _⟩
    case round =>
      obtain ⟨k, hk, rfl, hE, hbl⟩ := hrel
      have hwk : wrap64 ((k : Int) + 1) = ((k + 1 : Nat) : Int) := by rw [Go.IntWalk.wrap64_in _ (by omega)]; rfl
      by_cases hlt : k < n
      · have i1 : (k : Int) < (n : Int) := by omega
        have i0 : (0 : Int) ≤ (k : Int) := by omega
        obtain ⟨gx, ox, rfl, cx⟩ := HX.out (by omega)
        obtain ⟨gy, oy, rfl, cy⟩ := HY.out (by omega)
        have c1 := below_cell hbl (cx k hlt)
        have c2 := below_cell hbl (cy k hlt)
        obtain ⟨zx, hzx⟩ : ∃ z, z = xs[k]?.getD 0 := ⟨_, rfl⟩
        obtain ⟨zy, hzy⟩ : ∃ z, z = ys[k]?.getD 0 := ⟨_, rfl⟩
        rw [← hzx] at c1
        rw [← hzy] at c2
        have HZX := hidden hzx
        have HZY := hidden hzy
        clear cx cy hzx hzy
        have hxk : xs.take (k + 1) = xs.take k ++ [zx] := by rw [take_snoc xs k (by have := HNX.out; omega), HZX.out]; rfl
        have hyk : ys.take (k + 1) = ys.take k ++ [zy] := by rw [take_snoc ys k (by have := HN.out; omega), HZY.out]; rfl
        by_cases heq : zx = zy
        · subst heq
          have HT : Hid (xs.take (k + 1) = ys.take (k + 1)) := by show _ = _; rw [hxk, hyk, hE.out]
          clear hxk hyk
          go_wp2_with fail
          go_quiet (fail)
          go_wp2
          exact ⟨⟨k + 1, by omega, by go_num, HT, below_drewN hbl _⟩, by simp [intOf]; omega⟩
        · have HT : Hid (xs ≠ ys) := by
            show xs ≠ ys
            intro e
            apply heq
            rw [HZX.out, HZY.out, e]
          have hne : (zx == zy) = false := by simpa using heq
          clear hxk hyk heq
          go_wp2_with fail
          go_quiet (fail)
          go_wp2
          go_ret
          exact ⟨by rw [decide_eq_false HT.out]; rfl, below_drewN hbl _⟩
      · obtain rfl : k = n := by omega
        have HT : Hid (xs = ys) := by
          have := hE.out
          rw [List.take_of_length_le (by have := HNX.out; omega), List.take_of_length_le (by have := HN.out; omega)] at this
          exact this
        go_wp2
        go_ret
        exact ⟨by rw [decide_eq_true HT.out]; rfl, hbl⟩
  · have HT : Hid (xs ≠ ys) := fun e => hlen (by rw [e])
    have hne : ((xs.length : Int) == (ys.length : Int)) = false := by simp; omega
    clear hx hy
    go_enter Tryz.func38, Tryz.ntmps38
    go_wp2
    go_ret
    exact ⟨by rw [decide_eq_false HT.out]; rfl, Below.refl _ _⟩

end Go.Proofs.YtlhnodinhmdjnaaGreatDoor
