/- What stands in every later world, beside nodes: see KpBase. -/
import Derived.Test.YtdpaanidangnlaaDoorWt25
import Derived.Test.YtdpaanidangnlaaDoorWt15
import Derived.Test.YtdpaanidangnlaaDoorWt21
import Derived.Test.YtdpaanidangnlaaDoorWt08
namespace Go.Proofs.YtdpaanidangnlaaDoor
set_option maxRecDepth 20000
open Go.RowKit

theorem kp_nodes : True := trivial

end Go.Proofs.YtdpaanidangnlaaDoor

/- Entries in memory: a slice of pairs, each a key and a value. -/
namespace Go.Proofs.YtdpaanidangnlaaDoor
set_option maxRecDepth 20000
open Go.RowKit

def e00 : Ent := ([], [])
def encP (k : List Int) (v : Value) : List Value := k.map (Value.int .u8) ++ [v]
theorem encP_length (k : List Int) (v : Value) (h : k.length = 32) : (encP k v).length = 33 := by simp [encP, h]

/-- A slice of entries; V i is the value of the entry i. -/
def PrAt (w : World) (v : Value) (V : Nat → Value) (es : List Ent) : Prop :=
  ∃ a cap, v = .slice a es.length cap ∧ es.length ≤ cap ∧ (0 < es.length → ∃ g off, a = some ⟨g, off, none⟩ ∧ ∀ i, i < es.length → w.rangeAt g (off + i * 33) (encP (es.getD i e00).1 (V i))) ∧
    ∀ i, i < es.length → Key (es.getD i e00).1 ∧ Reads w (V i) (es.getD i e00).2

theorem rng_grow {w w' : World} {g o : Nat} {cs : List Value} (h : w.rangeAt g o cs) (hb : Below w.heap.size w w') : w'.rangeAt g o cs := fun j v hv => (hb.cell (p := ⟨g, o + j, none⟩) (block_lt_of_cell (h j v hv))).trans (h j v hv)

theorem PrAt.grow {w w' : World} {v : Value} {V : Nat → Value} {es : List Ent} (h : PrAt w v V es) (hb : Below w.heap.size w w') : PrAt w' v V es := by
  obtain ⟨a, cap, e, h1, h2, h3⟩ := h
  refine ⟨a, cap, e, h1, fun hp => ?_, fun i hi => ⟨(h3 i hi).1, (h3 i hi).2.grow hb⟩⟩
  obtain ⟨g, off, ea, hr⟩ := h2 hp
  exact ⟨g, off, ea, fun i hi => rng_grow (hr i hi) hb⟩
theorem PrAt.kp {w : World} {v : Value} {V : Nat → Value} {es : List Ent} (h : PrAt w v V es) : Kp w (fun w' => PrAt w' v V es) := fun _ q => h.grow q
theorem PrAt.keys {w : World} {v : Value} {V : Nat → Value} {es : List Ent} (h : PrAt w v V es) : ∀ e ∈ es, Key e.1 := by
  intro e he
  obtain ⟨_, _, _, _, _, h3⟩ := h
  obtain ⟨i, hi, rfl⟩ := List.mem_iff_getElem.1 he
  have := (h3 i hi).1
  simpa [List.getD, hi] using this

/-- May entries be: the ones ahead have the keys ks. -/
def lsE : List (List Int) → List Ent → Int
  | _, [] => 0
  | ks, e :: r => if 1024 < e.2.length then 4 else if e.1 ∈ ks then 6 else lsE (ks ++ [e.1]) r
def errB (es : List Ent) : Int := if 4096 < es.length then 4 else lsE [] es
theorem lsE_step (ks : List (List Int)) (es : List Ent) (k : Nat) (hk : k < es.length) : lsE ks (es.drop k) = if 1024 < (es.getD k e00).2.length then 4 else if (es.getD k e00).1 ∈ ks then 6 else lsE (ks ++ [(es.getD k e00).1]) (es.drop (k + 1)) := by
  rw [List.drop_eq_getElem_cons hk, lsE]
  simp [List.getD, hk]
theorem keys_take (es : List Ent) (k : Nat) (hk : k < es.length) : (es.take (k + 1)).map (·.1) = (es.take k).map (·.1) ++ [(es.getD k e00).1] := by
  rw [List.take_add_one, List.map_append]
  simp [List.getD, hk]

theorem lsE_ok : ∀ (ks : List (List Int)) (es : List Ent), lsE ks es = 0 → (∀ e ∈ es, e.2.length ≤ 1024) ∧ Apart1 es ∧ ∀ e ∈ es, e.1 ∉ ks
  | ks, [], _ => ⟨by simp, List.Pairwise.nil, by simp⟩
  | ks, e :: r, h => by
    rw [lsE] at h
    split at h
    · omega
    · rename_i h1
      split at h
      · omega
      · rename_i h2
        obtain ⟨a, b, c⟩ := lsE_ok _ r h
        refine ⟨fun x hx => ?_, List.pairwise_cons.2 ⟨fun x hx e1 => ?_, b⟩, fun x hx => ?_⟩
        · rcases List.mem_cons.1 hx with rfl | hx
          · omega
          · exact a x hx
        · exact c x hx (by simp [e1])
        · rcases List.mem_cons.1 hx with rfl | hx
          · exact h2
          · exact fun hm => c x hx (by simp [hm])
theorem lsE_of : ∀ (ks : List (List Int)) (es : List Ent), (∀ e ∈ es, e.2.length ≤ 1024) → Apart1 es → (∀ e ∈ es, e.1 ∉ ks) → lsE ks es = 0
  | ks, [], _, _, _ => rfl
  | ks, e :: r, h1, h2, h3 => by
    have a := h1 e (by simp)
    rw [lsE, if_neg (by omega), if_neg (h3 e (by simp))]
    refine lsE_of _ r (fun x hx => h1 x (by simp [hx])) (List.pairwise_cons.1 h2).2 (fun x hx hm => ?_)
    rcases List.mem_append.1 hm with hm | hm
    · exact h3 x (by simp [hx]) hm
    · have : x.1 = e.1 := by simpa using hm
      exact (List.pairwise_cons.1 h2).1 x hx this.symm
theorem lsE_cases : ∀ (ks : List (List Int)) (es : List Ent), lsE ks es = 0 ∨ lsE ks es = 4 ∨ lsE ks es = 6
  | _, [] => .inl rfl
  | ks, e :: r => by
    rw [lsE]
    split
    · exact .inr (.inl rfl)
    · split
      · exact .inr (.inr rfl)
      · exact lsE_cases _ r

theorem size_pair : (Tryd.prog.info? 68).map (·.size) = some 33 := by kernel_rfl

theorem u_pair : ∃ fs, Tryd.prog.underlying 68 = some (.struct fs) := ⟨_, Tryd.underlying68⟩

theorem zero_pair : ∀ w, (zeroValue 68).run Tryd.prog w = .ok (.agg (encP z32 (.slice none 0 0)).toArray) w := zero_of_info (n := 33) (by kernel_rfl) |>.1

theorem encP_one (k : List Int) (a : Option Addr) (l c : Nat) : (encP k (.slice a l c)).toArray.all (·.oneCell') = true := all_oneCell_toArray (fun v hv => by
  unfold encP at hv
  rcases List.mem_append.1 hv with hv | hv
  · obtain ⟨z, _, rfl⟩ := List.mem_map.1 hv
    rfl
  · obtain rfl : v = .slice a l c := by simpa using hv
    rfl)

/-- A pair in a block of its own: its key, its value. -/
theorem pair_key {w : World} {g : Nat} {t : TypeId} {k : List Int} {v : Value} (h : Blk w g t (encP k v).toArray) : w.rangeAt g 0 (B k).toList := by
  intro j u hu
  rw [B_toList] at hu
  have hj : j < (k.map (Value.int .u8)).length := (List.getElem?_eq_some_iff.1 hu).1
  rw [Nat.zero_add, h.cell]
  simp only [encP, List.getElem?_toArray]
  rw [List.getElem?_append_left hj]
  exact hu
theorem pair_val {w : World} {g : Nat} {t : TypeId} {k : List Int} {v : Value} (h : Blk w g t (encP k v).toArray) (hk : k.length = 32) : w.cell? ⟨g, 32, none⟩ = some v := by
  rw [h.cell]
  simp only [encP, List.getElem?_toArray]
  rw [List.getElem?_append_right (by simp [hk])]
  simp [hk]

/-- load of a pair out of a slice. -/
theorem wpList_ldp {ops : Array Oper} {rest : List Oper} {op : Oper} {a : Act} {Q : Exit → Act → World → Prop} (w : World) (hgd : op.guard = none) (x : Operand) (ho : op.op = .load 68 x)
    (g o : Nat) (k : List Int) (v : Value) (hx : a.eval x = .pointer (some ⟨g, o, none⟩)) (h : w.rangeAt g o (encP k v)) (hl : k.length = 32)
    (hk : wpList Tryd.prog ops Q rest (a.put op.dst (.agg (encP k v).toArray)) w) : wpList Tryd.prog ops Q (op :: rest) a w := by
  obtain ⟨fs, hu⟩ := u_pair
  exact wpList_load_mid hgd 68 x ho g o hx (encP k v) _ h hu rfl (by rw [encP_length k v hl]; exact size_pair) hk

/-- load of a key at the front of a block. -/
theorem wpList_ldk {ops : Array Oper} {rest : List Oper} {op : Oper} {a : Act} {Q : Exit → Act → World → Prop} (w : World) (hgd : op.guard = none) (x : Operand) (ho : op.op = .load 24 x)
    (g o : Nat) (k : List Int) (hx : a.eval x = .pointer (some ⟨g, o, none⟩)) (h : w.rangeAt g o (B k).toList) (hl : k.length = 32)
    (hk : wpList Tryd.prog ops Q rest (a.put op.dst (.agg (B k))) w) : wpList Tryd.prog ops Q (op :: rest) a w :=
  wpList_load_mid hgd 24 x ho g o hx (B k).toList _ h Tryd.underlying24 rfl (by rw [B_toList, List.length_map, hl]; exact sz_path) (by simpa using hk)

end Go.Proofs.YtdpaanidangnlaaDoor

/- The document's List of entries, as a contract. -/
namespace Go.Proofs.YtdpaanidangnlaaDoor
set_option maxRecDepth 20000
open Go.RowKit

theorem rng_key {w : World} {g o : Nat} {k : List Int} {v : Value} (h : w.rangeAt g o (encP k v)) : w.rangeAt g o (B k).toList := by
  intro j u hu
  rw [B_toList] at hu
  have hj : j < (k.map (Value.int .u8)).length := (List.getElem?_eq_some_iff.1 hu).1
  refine h j u ?_
  unfold encP
  rw [List.getElem?_append_left hj]
  exact hu
theorem rng_val {w : World} {g o : Nat} {k : List Int} {v : Value} (h : w.rangeAt g o (encP k v)) (hk : k.length = 32) : w.cell? ⟨g, o + 32, none⟩ = some v := by
  refine h 32 v ?_
  unfold encP
  rw [List.getElem?_append_right (by simp [hk])]
  simp [hk]

set_option maxRecDepth 100000 in
set_option maxHeartbeats 8000000 in
theorem refList_any (v : Value) (V : Nat → Value) (es : List Ent) (w : World) (hv : PrAt w v V es) (hn : es.length ≤ 140737488355328) :
    Calls Tryd.prog 31 #[v] w fun e w' => e = .returned (.int .i64 (errB es)) ∧ Below w.heap.size w w' := by
  obtain ⟨a, cap, rfl, hcap, hc, hr⟩ := hv
  by_cases hbig : 4096 < es.length
  · have hE : errB es = 4 := by rw [errB, if_pos hbig]
    rw [hE]
    have hb : (4096 : Int) < (es.length : Int) := by omega
    clear hc hr hcap hbig hE
    go_enter Tryd.func31, Tryd.ntmps31
    go_wp2
    go_ret
    exact ⟨rfl, Below.refl _ _⟩
  · have HE : Hid (errB es = lsE [] es) := by show _ = _; rw [errB, if_neg hbig]
    have HC := hidden hc
    have HR := hidden hr
    have hb : ¬ (4096 : Int) < (es.length : Int) := by omega
    obtain ⟨n, hnn⟩ : ∃ n, n = es.length := ⟨_, rfl⟩
    have HN := hidden hnn
    obtain ⟨E, hE⟩ : ∃ E, E = errB es := ⟨_, rfl⟩
    rw [← hE] at HE ⊢
    rw [← hnn] at hb hn ⊢
    have hn2 : n ≤ 4096 := by omega
    clear hc hr hcap hbig hnn hE
    go_enter Tryd.func31, Tryd.ntmps31
    go_wp2_with fail
    go_loopw [3] (fun i wr => ∃ k : Nat, k ≤ n ∧ i = .int .i64 k ∧ Hid (E = lsE ((es.take k).map (·.1)) (es.drop k)) ∧ Below w.heap.size w wr) (fun i _ => n - (intOf i).toNat)
    case atStart => exact ⟨0, by omega, rfl, HE, Below.refl _ _⟩
    case round =>
      obtain ⟨k, hk, rfl, hls, hbw⟩ := hrel
      by_cases hlt : k < n
      · have hlt' : k < es.length := by rw [← HN.out]; exact hlt
        obtain ⟨g, off, rfl, hcc⟩ := HC.out (by omega)
        have z1 : (k : Int) < (n : Int) := by omega
        have z0 : (0 : Int) ≤ (k : Int) := by omega
        obtain ⟨hkey, hrd⟩ := HR.out k hlt'
        have HCC : Hid (∀ i, i < n → ∀ w', Below w.heap.size w w' → w'.rangeAt g (off + i * 33) (encP (es.getD i e00).1 (V i))) := fun i hi w' hw' => rng_grow (hcc i (by rw [← HN.out]; exact hi)) hw'
        have hst := lsE_step ((es.take k).map (·.1)) es k hlt'
        rw [← hls.out] at hst
        have HKT := hidden (keys_take es k hlt')
        have HKM : Hid (∀ x, x ∈ (es.take k).map (·.1) ↔ ∃ q, q < k ∧ (es.getD q e00).1 = x) := by
          intro x
          constructor
          · intro hx
            obtain ⟨y, hy, rfl⟩ := List.mem_map.1 hx
            obtain ⟨j, hj, rfl⟩ := List.mem_iff_getElem.1 hy
            simp at hj
            exact ⟨j, by omega, by simp [List.getD, show j < es.length by omega]⟩
          · rintro ⟨q, hq, rfl⟩
            refine List.mem_map.2 ⟨es.getD q e00, ?_, rfl⟩
            have hq' : q < es.length := by omega
            have : es.getD q e00 = (es.take k)[q]'(by simp; omega) := by simp [List.getD, hq']
            rw [this]
            exact List.getElem_mem _
        obtain ⟨va, vc, hV, _, _, _, _⟩ := hrd
        have ckv : wr.cell? ⟨g, off + k * 33 + 32, none⟩ = some (V k) := rng_val (HCC.out k hlt wr hbw) hkey.1
        obtain ⟨K, hK⟩ : ∃ K, K = (es.getD k e00).1 := ⟨_, rfl⟩
        obtain ⟨L, hL⟩ : ∃ L, L = (es.getD k e00).2.length := ⟨_, rfl⟩
        rw [← hK, ← hL] at hst
        rw [← hK] at HKT hkey
        rw [← hL] at hV
        rw [hV] at ckv
        have HKK := hidden hK
        have HKY := hidden hkey
        obtain ⟨ks, hksd⟩ : ∃ ks, ks = (es.take k).map (·.1) := ⟨_, rfl⟩
        rw [← hksd] at hst HKT HKM
        clear hcc hls hK hL hV hkey hksd hlt'
        by_cases hlong : 1024 < L
        · rw [if_pos hlong] at hst
          have hl2 : (1024 : Int) < (L : Int) := by omega
          have HSTT := hidden hst
          clear hst hlong
          go_wp2_with fail
          go_ret
          exact ⟨by rw [HSTT.out]; rfl, hbw⟩
        · rw [if_neg hlong] at hst
          have hl2 : ¬ (1024 : Int) < (L : Int) := by omega
          have HST := hidden hst
          clear hst hlong
          go_wp2_with fail
          go_loopw [4] (fun j ws => ∃ q : Nat, q ≤ k ∧ j = .int .i64 q ∧ Hid (∀ p, p < q → (es.getD p e00).1 ≠ K) ∧ Below w.heap.size w ws) (fun j _ => k - (intOf j).toNat)
          case atStart => exact ⟨0, by omega, rfl, fun p hp => by omega, hbw⟩
          case round =>
            obtain ⟨q, hq, rfl, hno, hbs⟩ := hrel
            by_cases hqk : q < k
            · have y1 : (q : Int) < (k : Int) := by omega
              have y0 : (0 : Int) ≤ (q : Int) := by omega
              have y2 : (q : Int) < (n : Int) := by omega
              obtain ⟨J, hJ⟩ : ∃ J, J = (es.getD q e00).1 := ⟨_, rfl⟩
              have HJL : Hid (J.length = 32) := by
                show _ = _
                rw [hJ]
                exact (HR.out q (by rw [← HN.out]; omega)).1.1
              have hEq : ∀ w, (Op.equalIn 10000 24 (.agg (B J)) (.agg (B K))).run Tryd.prog w = .ok (decide (J = K)) w := fun w => path_eq J K HJL.out HKY.out.1 w
              have HS : Hid (∀ w', Below w.heap.size w w' → w'.rangeAt g (off + q * 33) (B J).toList ∧ w'.rangeAt g (off + k * 33) (B K).toList) := fun w' hw' => by
                have h1 := rng_key (HCC.out q (by omega) w' hw')
                have h2 := rng_key (HCC.out k hlt w' hw')
                rw [← hJ] at h1
                rw [← HKK.out] at h2
                exact ⟨h1, h2⟩
              have HLJ : Hid ((Tryd.prog.info? 24).map (·.size) = some (B J).toList.length) := by show _ = _; rw [B_toList, List.length_map, HJL.out]; exact sz_path
              have HLK : Hid ((Tryd.prog.info? 24).map (·.size) = some (B K).toList.length) := by show _ = _; rw [B_toList, List.length_map, HKY.out.1]; exact sz_path
              have HJJ := hidden hJ
              clear hJ
              by_cases hJK : J = K
              · have HR6 : Hid (E = 6) := by
                  show _ = _
                  rw [HST.out, if_pos ((HKM.out K).2 ⟨q, hqk, by rw [← HJJ.out, hJK]⟩)]
                rw [decide_eq_true hJK] at hEq
                have HJK := hidden hJK
                clear hJK
                go_wp2_with fail
                have d0 : Below w.heap.size w wr.drew := grow_trans hbs (Below.refl _ _).drew
                refine wp_region_held_drew (S := fun w' => w'.rangeAt g (off + q * 33) (B J).toList ∧ w'.rangeAt g (off + k * 33) (B K).toList) (by kernel_rfl) (HS.out _ d0) (fun hHeld => ?_)
                refine wpAnyH_take (i := 0) (v := .slice (some ⟨g, off, none⟩) n cap) rfl (by kernel_rfl) (by kernel_rfl) (by kernel_rfl) (fun _ _ _ h => h) (Or.inl ⟨by rfl, fun w hS => by go_simp⟩) hHeld ?_
                simp only [Act.put, List.getElem_toArray, List.getElem_cons_zero, List.setIfInBounds_toArray, List.set_cons_zero, List.set_cons_succ]
                refine wpAnyH_take (i := 1) (v := .int .i64 q) rfl (by kernel_rfl) (by kernel_rfl) (by kernel_rfl) (fun _ _ _ h => h) (Or.inl ⟨by rfl, fun w hS => by go_simp⟩) hHeld ?_
                simp only [Act.put, List.getElem_toArray, List.getElem_cons_zero, List.getElem_cons_succ, List.setIfInBounds_toArray, List.set_cons_zero, List.set_cons_succ]
                refine wpAnyH_take (i := 2) (v := .pointer (some ⟨g, off + q * 33, none⟩)) rfl (by kernel_rfl) (by kernel_rfl) (by kernel_rfl) (fun _ _ _ h => h) (Or.inl ⟨by rfl, fun w hS => by go_simp⟩) hHeld ?_
                simp only [Act.put, List.getElem_toArray, List.getElem_cons_zero, List.getElem_cons_succ, List.setIfInBounds_toArray, List.set_cons_zero, List.set_cons_succ]
                refine wpAnyH_take (i := 3) (v := .pointer (some ⟨g, off + q * 33, none⟩)) rfl (by kernel_rfl) (by kernel_rfl) (by kernel_rfl) (fun _ _ _ h => h) (Or.inl ⟨by rfl, fun w hS => by go_simp⟩) hHeld ?_
                simp only [Act.put, List.getElem_toArray, List.getElem_cons_zero, List.getElem_cons_succ, List.setIfInBounds_toArray, List.set_cons_zero, List.set_cons_succ]
                refine wpAnyH_take (i := 4) (v := .agg (B J)) rfl (by kernel_rfl) (by kernel_rfl) (by kernel_rfl) (fun _ _ _ h => h) (yieldsIf_load_mid rfl 24 (.tmp 29) rfl g (off + q * 33) rfl (B J).toList _ (fun w hS => hS.1) Tryd.underlying24 rfl HLJ.out) hHeld ?_
                simp only [Act.put, List.getElem_toArray, List.getElem_cons_zero, List.getElem_cons_succ, List.setIfInBounds_toArray, List.set_cons_zero, List.set_cons_succ]
                refine wpAnyH_take (i := 5) (v := .slice (some ⟨g, off, none⟩) n cap) rfl (by kernel_rfl) (by kernel_rfl) (by kernel_rfl) (fun _ _ _ h => h) (Or.inl ⟨by rfl, fun w hS => by go_simp⟩) hHeld ?_
                simp only [Act.put, List.getElem_toArray, List.getElem_cons_zero, List.getElem_cons_succ, List.setIfInBounds_toArray, List.set_cons_zero, List.set_cons_succ]
                refine wpAnyH_take (i := 6) (v := .int .i64 k) rfl (by kernel_rfl) (by kernel_rfl) (by kernel_rfl) (fun _ _ _ h => h) (Or.inl ⟨by rfl, fun w hS => by go_simp⟩) hHeld ?_
                simp only [Act.put, List.getElem_toArray, List.getElem_cons_zero, List.getElem_cons_succ, List.setIfInBounds_toArray, List.set_cons_zero, List.set_cons_succ]
                refine wpAnyH_take (i := 7) (v := .pointer (some ⟨g, off + k * 33, none⟩)) rfl (by kernel_rfl) (by kernel_rfl) (by kernel_rfl) (fun _ _ _ h => h) (Or.inl ⟨by rfl, fun w hS => by go_simp⟩) hHeld ?_
                simp only [Act.put, List.getElem_toArray, List.getElem_cons_zero, List.getElem_cons_succ, List.setIfInBounds_toArray, List.set_cons_zero, List.set_cons_succ]
                refine wpAnyH_take (i := 8) (v := .pointer (some ⟨g, off + k * 33, none⟩)) rfl (by kernel_rfl) (by kernel_rfl) (by kernel_rfl) (fun _ _ _ h => h) (Or.inl ⟨by rfl, fun w hS => by go_simp⟩) hHeld ?_
                simp only [Act.put, List.getElem_toArray, List.getElem_cons_zero, List.getElem_cons_succ, List.setIfInBounds_toArray, List.set_cons_zero, List.set_cons_succ]
                refine wpAnyH_take (i := 9) (v := .agg (B K)) rfl (by kernel_rfl) (by kernel_rfl) (by kernel_rfl) (fun _ _ _ h => h) (yieldsIf_load_mid rfl 24 (.tmp 34) rfl g (off + k * 33) rfl (B K).toList _ (fun w hS => hS.2) Tryd.underlying24 rfl HLK.out) hHeld ?_
                simp only [Act.put, List.getElem_toArray, List.getElem_cons_zero, List.getElem_cons_succ, List.setIfInBounds_toArray, List.set_cons_zero, List.set_cons_succ]
                refine wpAnyH_take (i := 10) (v := .bool true) rfl (by kernel_rfl) (by kernel_rfl) (by kernel_rfl) (fun _ _ _ h => h) (Or.inl ⟨by rfl, fun w hS => by go_simp⟩) hHeld ?_
                simp only [Act.put, List.getElem_toArray, List.getElem_cons_zero, List.getElem_cons_succ, List.setIfInBounds_toArray, List.set_cons_zero, List.set_cons_succ]
                refine wpAnyH_done (by kernel_rfl) ?_ _
                go_wp2_with fail
                go_ret
                exact ⟨by rw [HR6.out]; rfl, d0⟩
              · have HNO : Hid (∀ p, p < q + 1 → (es.getD p e00).1 ≠ K) := by
                  intro p hp
                  by_cases e : p = q
                  · rw [e, ← HJJ.out]
                    exact hJK
                  · exact hno.out p (by omega)
                rw [decide_eq_false hJK] at hEq
                clear hJK
                go_wp2_with fail
                have d0 : Below w.heap.size w wr.drew := grow_trans hbs (Below.refl _ _).drew
                refine wp_region_held_drew (S := fun w' => w'.rangeAt g (off + q * 33) (B J).toList ∧ w'.rangeAt g (off + k * 33) (B K).toList) (by kernel_rfl) (HS.out _ d0) (fun hHeld => ?_)
                refine wpAnyH_take (i := 0) (v := .slice (some ⟨g, off, none⟩) n cap) rfl (by kernel_rfl) (by kernel_rfl) (by kernel_rfl) (fun _ _ _ h => h) (Or.inl ⟨by rfl, fun w hS => by go_simp⟩) hHeld ?_
                simp only [Act.put, List.getElem_toArray, List.getElem_cons_zero, List.setIfInBounds_toArray, List.set_cons_zero, List.set_cons_succ]
                refine wpAnyH_take (i := 1) (v := .int .i64 q) rfl (by kernel_rfl) (by kernel_rfl) (by kernel_rfl) (fun _ _ _ h => h) (Or.inl ⟨by rfl, fun w hS => by go_simp⟩) hHeld ?_
                simp only [Act.put, List.getElem_toArray, List.getElem_cons_zero, List.getElem_cons_succ, List.setIfInBounds_toArray, List.set_cons_zero, List.set_cons_succ]
                refine wpAnyH_take (i := 2) (v := .pointer (some ⟨g, off + q * 33, none⟩)) rfl (by kernel_rfl) (by kernel_rfl) (by kernel_rfl) (fun _ _ _ h => h) (Or.inl ⟨by rfl, fun w hS => by go_simp⟩) hHeld ?_
                simp only [Act.put, List.getElem_toArray, List.getElem_cons_zero, List.getElem_cons_succ, List.setIfInBounds_toArray, List.set_cons_zero, List.set_cons_succ]
                refine wpAnyH_take (i := 3) (v := .pointer (some ⟨g, off + q * 33, none⟩)) rfl (by kernel_rfl) (by kernel_rfl) (by kernel_rfl) (fun _ _ _ h => h) (Or.inl ⟨by rfl, fun w hS => by go_simp⟩) hHeld ?_
                simp only [Act.put, List.getElem_toArray, List.getElem_cons_zero, List.getElem_cons_succ, List.setIfInBounds_toArray, List.set_cons_zero, List.set_cons_succ]
                refine wpAnyH_take (i := 4) (v := .agg (B J)) rfl (by kernel_rfl) (by kernel_rfl) (by kernel_rfl) (fun _ _ _ h => h) (yieldsIf_load_mid rfl 24 (.tmp 29) rfl g (off + q * 33) rfl (B J).toList _ (fun w hS => hS.1) Tryd.underlying24 rfl HLJ.out) hHeld ?_
                simp only [Act.put, List.getElem_toArray, List.getElem_cons_zero, List.getElem_cons_succ, List.setIfInBounds_toArray, List.set_cons_zero, List.set_cons_succ]
                refine wpAnyH_take (i := 5) (v := .slice (some ⟨g, off, none⟩) n cap) rfl (by kernel_rfl) (by kernel_rfl) (by kernel_rfl) (fun _ _ _ h => h) (Or.inl ⟨by rfl, fun w hS => by go_simp⟩) hHeld ?_
                simp only [Act.put, List.getElem_toArray, List.getElem_cons_zero, List.getElem_cons_succ, List.setIfInBounds_toArray, List.set_cons_zero, List.set_cons_succ]
                refine wpAnyH_take (i := 6) (v := .int .i64 k) rfl (by kernel_rfl) (by kernel_rfl) (by kernel_rfl) (fun _ _ _ h => h) (Or.inl ⟨by rfl, fun w hS => by go_simp⟩) hHeld ?_
                simp only [Act.put, List.getElem_toArray, List.getElem_cons_zero, List.getElem_cons_succ, List.setIfInBounds_toArray, List.set_cons_zero, List.set_cons_succ]
                refine wpAnyH_take (i := 7) (v := .pointer (some ⟨g, off + k * 33, none⟩)) rfl (by kernel_rfl) (by kernel_rfl) (by kernel_rfl) (fun _ _ _ h => h) (Or.inl ⟨by rfl, fun w hS => by go_simp⟩) hHeld ?_
                simp only [Act.put, List.getElem_toArray, List.getElem_cons_zero, List.getElem_cons_succ, List.setIfInBounds_toArray, List.set_cons_zero, List.set_cons_succ]
                refine wpAnyH_take (i := 8) (v := .pointer (some ⟨g, off + k * 33, none⟩)) rfl (by kernel_rfl) (by kernel_rfl) (by kernel_rfl) (fun _ _ _ h => h) (Or.inl ⟨by rfl, fun w hS => by go_simp⟩) hHeld ?_
                simp only [Act.put, List.getElem_toArray, List.getElem_cons_zero, List.getElem_cons_succ, List.setIfInBounds_toArray, List.set_cons_zero, List.set_cons_succ]
                refine wpAnyH_take (i := 9) (v := .agg (B K)) rfl (by kernel_rfl) (by kernel_rfl) (by kernel_rfl) (fun _ _ _ h => h) (yieldsIf_load_mid rfl 24 (.tmp 34) rfl g (off + k * 33) rfl (B K).toList _ (fun w hS => hS.2) Tryd.underlying24 rfl HLK.out) hHeld ?_
                simp only [Act.put, List.getElem_toArray, List.getElem_cons_zero, List.getElem_cons_succ, List.setIfInBounds_toArray, List.set_cons_zero, List.set_cons_succ]
                refine wpAnyH_take (i := 10) (v := .bool false) rfl (by kernel_rfl) (by kernel_rfl) (by kernel_rfl) (fun _ _ _ h => h) (Or.inl ⟨by rfl, fun w hS => by go_simp⟩) hHeld ?_
                simp only [Act.put, List.getElem_toArray, List.getElem_cons_zero, List.getElem_cons_succ, List.setIfInBounds_toArray, List.set_cons_zero, List.set_cons_succ]
                refine wpAnyH_done (by kernel_rfl) ?_ _
                go_wp2_with fail
                exact ⟨⟨q + 1, by omega, by go_num, HNO, d0⟩, by simp [intOf]; omega⟩
            · have hqe : q = k := by omega
              subst hqe
              have HSTT : Hid (E = lsE (ks ++ [K]) (es.drop (q + 1))) := by
                show _ = _
                rw [HST.out, if_neg]
                intro hm
                obtain ⟨p, hp, e⟩ := (HKM.out K).1 hm
                exact hno.out p hp e
              rw [← HKT.out] at HSTT
              have y1 : ¬ (q : Int) < (q : Int) := by omega
              go_wp2_with fail
              exact ⟨⟨q + 1, by omega, by go_num, HSTT, hbs⟩, by simp [intOf]; omega⟩
      · have hkn : k = es.length := by rw [← HN.out]; omega
        have HZ : Hid (E = 0) := by
          show _ = _
          rw [hls.out, hkn, List.drop_of_length_le (Nat.le_refl _)]
          rfl
        have z1 : ¬ (k : Int) < (n : Int) := by omega
        clear hls
        go_wp2
        go_ret
        exact ⟨by rw [HZ.out]; rfl, hbw⟩

end Go.Proofs.YtdpaanidangnlaaDoor
