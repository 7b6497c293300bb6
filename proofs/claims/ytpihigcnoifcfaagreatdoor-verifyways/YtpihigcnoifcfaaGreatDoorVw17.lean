/- That an array is like itself; what calls of a State that is none tell. -/
import Derived.Test.YtpihigcnoifcfaaGreatDoorVw11
import Derived.Test.YtpihigcnoifcfaaGreatDoorVw04
import Derived.ChangeKeysEq
import Derived.Laws.StructEq
import Derived.Test.YtpihigcnoifcfaaGreatDoorVw03
import Derived.KernelRfl
import Derived.Test.YtpihigcnoifcfaaGreatDoorVw01
import Derived.Lib.Bytealg
namespace Go.Proofs.YtpihigcnoifcfaaGreatDoor
set_option maxRecDepth 20000
open Go.RowKit

theorem cellsOf_word : Tryz.prog.cellsOf 119 = 1 := by kernel_rfl

theorem items_same {e : TypeId} {k : IntKind} (he : Tryz.prog.underlying e = some (.int k)) (hagg : ∀ w, (isAgg e).run Tryz.prog w = .ok false w) (d : Nat) (zs : List Int) (xs : Array Value) (hx : ∀ i, i < zs.length → xs[i]? = some (.int k (zs.getD i 0))) (w : World) :
    ∀ is : List Nat, (∀ i ∈ is, i < zs.length) → (Op.eqItems (d + 1) e 1 xs xs is).run Tryz.prog w = .ok true w
  | [], _ => by simp [Op.eqItems]
  | i :: is, h => by
    have h1 := hx i (h i (by simp))
    have hp : (part e xs (i * 1)).run Tryz.prog w = .ok (.int k (zs.getD i 0)) w := by
      rw [Nat.mul_one]
      unfold part
      rw [Sem.run_bind, hagg w]
      simp only [Result.andThen_ok, Bool.false_eq_true, if_false, h1, Sem.run_pure]
    have he2 := run_equalIn_int (P := Tryz.prog) (w := w) d e k k (zs.getD i 0) (zs.getD i 0) he
    have ih := items_same he hagg d zs xs hx w is (fun j hj => h j (by simp [hj]))
    simp only [Op.eqItems, Sem.run_bind, hp, Result.andThen_ok, he2, beq_self_eq_true, Bool.not_true, Bool.false_eq_true, if_false, ih]

theorem hash_same (zs : List Int) (hl : zs.length = 32) (w : World) : (Op.equalIn 10000 25 (.agg (B zs)) (.agg (B zs))).run Tryz.prog w = .ok true w := by
  obtain ⟨i, hi⟩ : ∃ i, Tryz.prog.info? 5 = some i := ⟨_, rfl⟩
  rw [show (10000 : Nat) = 9998 + 1 + 1 from rfl, run_equalIn_array (P := Tryz.prog) w (9998 + 1) (B zs) (B zs) Tryz.underlying25 hi, cellsOf_byte]
  exact items_same u_byte Tryz.isAgg5 9998 zs (B zs) (fun i hi => B_get zs i hi) w _ (fun i hi => by rw [hl]; simpa using hi)

theorem words_same (zs : List Int) (hl : zs.length = 8) (w : World) : (Op.equalIn 10000 120 (.agg (U zs)) (.agg (U zs))).run Tryz.prog w = .ok true w := by
  obtain ⟨i, hi⟩ : ∃ i, Tryz.prog.info? 119 = some i := ⟨_, rfl⟩
  rw [show (10000 : Nat) = 9998 + 1 + 1 from rfl, run_equalIn_array (P := Tryz.prog) w (9998 + 1) (U zs) (U zs) Tryz.underlying120 hi, cellsOf_word]
  exact items_same Tryz.underlying119 Tryz.isAgg119 9998 zs (U zs) (fun i hi => U_get zs i hi) w _ (fun i hi => by rw [hl]; simpa using hi)

/-- What good tells of a State that is none. -/
def NoState (r : Value) (w : World) : Prop := Calls Tryz.prog 75 #[r] w fun e w' => e = .returned (.bool false) ∧ w' = w

set_option maxHeartbeats 400000 in
theorem write_none (r v : Value) (w : World) (h : NoState r w) : Calls Tryz.prog 58 #[r, v] w fun e w' => e = .returned (.int .i64 0) ∧ w' = w := by
  have H := hidden h
  clear h
  go_enter Tryz.func58, Tryz.ntmps58
  go_wp2_with (go_at_call 75; refine H.out.mono ?_; rintro e w' ⟨rfl, rfl⟩)
  go_ret
  exact ⟨rfl, rfl⟩

set_option maxHeartbeats 400000 in
theorem sum_none (r : Value) (w : World) (h : ∀ w', Below w.heap.size w w' → NoState r w') : Calls Tryz.prog 59 #[r] w fun e w' => e = .returned (.agg (B (List.replicate 32 0))) ∧ Below w.heap.size w w' := by
  have H := hidden h
  clear h
  go_enter Tryz.func59, Tryz.ntmps59
  go_wp2_with (first | (refine wpList_al _ rfl _ rfl _ zero_hash ?_; intro w1 g1 hg1 hl1 B1 b1) | (go_at_call 75; refine (H.out _ b1).mono ?_; rintro e w' ⟨rfl, hw'⟩; rw [hw']; clear hw') | (refine wpList_bld _ rfl _ _ rfl (B (List.replicate 32 0)) (by kernel_rfl) ?_) | (refine wpList_sto _ rfl _ _ _ rfl g1 _ _ rfl rfl B1 (by rw [B_size]; exact size_hash) rfl (B_one _) ?_; intro w2 B2 g2))
  exact bodyPost_ret (v := .agg (B (List.replicate 32 0))) (results_cell_row rfl _ _ g1 _ _ _ _ rfl B2 Tryz.underlying25 rfl (by rw [B_size]; exact size_hash)) rfl ⟨rfl, below_row b1 g2 hg1⟩

end Go.Proofs.YtpihigcnoifcfaaGreatDoor

/- The digest of the text abc, reckoned by the kernel. -/
namespace Go.Proofs.YtpihigcnoifcfaaGreatDoor
set_option maxRecDepth 20000
open Go.RowKit

theorem dig_abc : dig [97, 98, 99] = [186, 120, 22, 191, 143, 1, 207, 234, 65, 65, 64, 222, 93, 174, 34, 35, 176, 3, 97, 163, 150, 23, 122, 156, 180, 16, 255, 97, 242, 0, 21, 173] := by kernel_rfl

end Go.Proofs.YtpihigcnoifcfaaGreatDoor

/- Digits of bytes, as plain lists: what Hex tells and Unhex reads, and that each is the other's way back. No word of the program. -/
namespace Go.Proofs.YtpihigcnoifcfaaGreatDoor
set_option maxRecDepth 20000
open Go.RowKit

/-- What a sign stands for; -1: it is no digit. -/
def dg (c : Int) : Int := if 48 ≤ c ∧ c ≤ 57 then c - 48 else if 97 ≤ c ∧ c ≤ 102 then c - 87 else -1
/-- The sign of a number below 16. -/
def hd (v : Int) : Int := if v < 10 then 48 + v else 87 + v

theorem dg_bd (c : Int) : -1 ≤ dg c ∧ dg c ≤ 15 := by unfold dg; split <;> (try split) <;> omega
theorem dg_hd (v : Int) (h0 : 0 ≤ v) (h1 : v ≤ 15) : dg (hd v) = v := by unfold dg hd; split <;> (try split) <;> (try split) <;> omega
theorem hd_dg (c : Int) (h : 0 ≤ dg c) : hd (dg c) = c := by
  unfold dg at *
  unfold hd
  split at h <;> (try split at h) <;> split <;> (try split) <;> (try split) <;> omega
theorem hd_bd (v : Int) (h0 : 0 ≤ v) (h1 : v ≤ 15) : 48 ≤ hd v ∧ hd v ≤ 102 := by unfold hd; split <;> omega

/-- The digits of bytes. -/
def hexL (zs : List Int) : List Int := zs.flatMap fun z => [hd (z / 16), hd (z % 16)]
theorem hexL_length (zs : List Int) : (hexL zs).length = 2 * zs.length := by
  induction zs with
  | nil => rfl
  | cons z zs ih => simp [hexL] at *; omega
theorem hexL_snoc (zs : List Int) (z : Int) : hexL (zs ++ [z]) = hexL zs ++ [hd (z / 16), hd (z % 16)] := by simp [hexL]
theorem hexL_bytes {zs : List Int} (h : Bytes zs) : Bytes (hexL zs) := by
  intro x hx
  simp only [hexL, List.mem_flatMap] at hx
  obtain ⟨z, hz, hx⟩ := hx
  have hb := h z hz
  have h1 := hd_bd (z / 16) (by omega) (by omega)
  have h2 := hd_bd (z % 16) (by omega) (by omega)
  simp at hx
  rcases hx with rfl | rfl <;> omega
theorem hexL_get : ∀ (zs : List Int) (j : Nat), j < zs.length → (hexL zs).getD (2 * j) 0 = hd (zs.getD j 0 / 16) ∧ (hexL zs).getD (2 * j + 1) 0 = hd (zs.getD j 0 % 16)
  | z :: zs, 0, _ => by simp [hexL]
  | z :: zs, j + 1, h => by
    have := hexL_get zs j (by simpa using h)
    have e : hexL (z :: zs) = hd (z / 16) :: hd (z % 16) :: hexL zs := by simp [hexL]
    rw [e, show 2 * (j + 1) = 2 * j + 2 by omega, show 2 * j + 2 + 1 = 2 * j + 1 + 2 by omega]
    simpa using this

/-- The first m pairs are digits. -/
def Good (l : List Int) (m : Nat) : Prop := ∀ j, j < m → 0 ≤ dg (l.getD (2 * j) 0) ∧ 0 ≤ dg (l.getD (2 * j + 1) 0)
/-- The byte of pair j. -/
def pr (l : List Int) (j : Nat) : Int := 16 * dg (l.getD (2 * j) 0) + dg (l.getD (2 * j + 1) 0)
/-- The bytes of the first m pairs. -/
def prs (l : List Int) (m : Nat) : List Int := (List.range m).map (pr l)
theorem prs_length (l : List Int) (m : Nat) : (prs l m).length = m := by simp [prs]
theorem prs_succ (l : List Int) (m : Nat) : prs l (m + 1) = prs l m ++ [pr l m] := by simp [prs, List.range_succ]
theorem pr_bd (l : List Int) (j m : Nat) (h : Good l m) (hj : j < m) : 0 ≤ pr l j ∧ pr l j ≤ 255 := by
  have h1 := h j hj
  have h2 := dg_bd (l.getD (2 * j) 0)
  have h3 := dg_bd (l.getD (2 * j + 1) 0)
  unfold pr
  omega
theorem prs_bytes (l : List Int) (m : Nat) (h : Good l m) : Bytes (prs l m) := by
  intro z hz
  simp only [prs, List.mem_map, List.mem_range] at hz
  obtain ⟨j, hj, rfl⟩ := hz
  exact pr_bd l j m h hj

/-- The same, as a test. -/
def goodB (l : List Int) (m : Nat) : Bool := (List.range m).all fun j => decide (0 ≤ dg (l.getD (2 * j) 0)) && decide (0 ≤ dg (l.getD (2 * j + 1) 0))
theorem goodB_iff (l : List Int) (m : Nat) : goodB l m = true ↔ Good l m := by
  simp only [goodB, Good, List.all_eq_true, List.mem_range, Bool.and_eq_true, decide_eq_true_eq]

/-- What Unhex reads: the error and the bytes. -/
def uh (l : List Int) : Int × List Int :=
  if 65536 < l.length then (4, []) else if l = [45] then (0, []) else if l.length = 0 ∨ l.length % 2 = 1 then (110, []) else
  if goodB l (l.length / 2) = true then (0, prs l (l.length / 2)) else (110, [])

/-- What Hex tells. -/
def hx (zs : List Int) : List Int := if zs = [] then [45] else hexL zs

theorem hx_bytes {zs : List Int} (h : Bytes zs) : Bytes (hx zs) := by
  unfold hx
  split
  · intro z hz; simp at hz; omega
  · exact hexL_bytes h

theorem list_ext_getD {a b : List Int} (hl : a.length = b.length) (h : ∀ i, i < a.length → a.getD i 0 = b.getD i 0) : a = b := by
  apply List.ext_getElem hl
  intro i h1 h2
  have := h i h1
  simpa [List.getD, h1, h2] using this

/-- There and back: bytes. -/
theorem uh_hx (zs : List Int) (hb : Bytes zs) (hl : zs.length ≤ 32768) : uh (hx zs) = (0, zs) := by
  unfold hx
  split
  · rename_i h; subst h; simp [uh]
  · rename_i h
    have hp : 0 < zs.length := List.length_pos_iff.2 h
    have hlen := hexL_length zs
    have hg : Good (hexL zs) ((hexL zs).length / 2) := by
      intro j hj
      rw [hlen] at hj
      obtain ⟨e1, e2⟩ := hexL_get zs j (by omega)
      have hz := hb.getD j
      rw [e1, e2, dg_hd _ (by omega) (by omega), dg_hd _ (by omega) (by omega)]
      omega
    have e : prs (hexL zs) ((hexL zs).length / 2) = zs := by
      have hm : (hexL zs).length / 2 = zs.length := by omega
      rw [hm]
      apply list_ext_getD (prs_length _ _)
      intro i hi
      rw [prs_length] at hi
      obtain ⟨e1, e2⟩ := hexL_get zs i hi
      have hz := hb.getD i
      have : (prs (hexL zs) zs.length).getD i 0 = pr (hexL zs) i := by simp [prs, List.getD, hi]
      rw [this]
      unfold pr
      rw [e1, e2, dg_hd _ (by omega) (by omega), dg_hd _ (by omega) (by omega)]
      omega
    unfold uh
    rw [if_neg (by omega), if_neg (by intro e; rw [e] at hlen; simp at hlen; omega), if_neg (by omega), if_pos ((goodB_iff _ _).2 hg), e]

/-- There and back: digits. -/
theorem hx_uh (l : List Int) (h : (uh l).1 = 0) : hx (uh l).2 = l := by
  unfold uh at *
  split at h
  · simp at h
  · rename_i h1
    rw [if_neg h1]
    split at h
    · rename_i h2; rw [if_pos h2, h2]; simp [hx]
    · rename_i h2
      rw [if_neg h2]
      split at h
      · simp at h
      · rename_i h3
        rw [if_neg h3]
        split at h
        · rename_i h4
          rw [if_pos h4]
          have h4 := (goodB_iff _ _).1 h4
          show hx (prs l (l.length / 2)) = l
          have hm : 0 < l.length / 2 := by omega
          have hne : prs l (l.length / 2) ≠ [] := by
            intro e
            have := prs_length l (l.length / 2)
            rw [e] at this
            simp at this
            omega
          unfold hx
          rw [if_neg hne]
          have hlen := hexL_length (prs l (l.length / 2))
          rw [prs_length] at hlen
          apply list_ext_getD (by omega)
          intro i hi
          have hj : i / 2 < (prs l (l.length / 2)).length := by rw [prs_length]; omega
          obtain ⟨e1, e2⟩ := hexL_get _ (i / 2) hj
          rw [prs_length] at hj
          have hp : (prs l (l.length / 2)).getD (i / 2) 0 = pr l (i / 2) := by simp [prs, List.getD, hj]
          obtain ⟨g1, g2⟩ := h4 (i / 2) hj
          have b1 := dg_bd (l.getD (2 * (i / 2)) 0)
          have b2 := dg_bd (l.getD (2 * (i / 2) + 1) 0)
          rw [hp] at e1 e2
          unfold pr at e1 e2
          rcases (show i = 2 * (i / 2) ∨ i = 2 * (i / 2) + 1 by omega) with e | e
          · rw [show (16 * dg (l.getD (2 * (i / 2)) 0) + dg (l.getD (2 * (i / 2) + 1) 0)) / 16 = dg (l.getD (2 * (i / 2)) 0) by omega, hd_dg _ g1, ← e] at e1
            exact e1
          · rw [show (16 * dg (l.getD (2 * (i / 2)) 0) + dg (l.getD (2 * (i / 2) + 1) 0)) % 16 = dg (l.getD (2 * (i / 2) + 1) 0) by omega, hd_dg _ g2, ← e] at e2
            exact e2
        · simp at h

theorem uh_len (l : List Int) : (uh l).2.length ≤ 32768 := by
  unfold uh
  split
  · simp
  · split
    · simp
    · split
      · simp
      · split
        · rw [prs_length]; omega
        · simp

/-- A text's bytes as numbers. -/
def nums (s : ByteArray) : List Int := s.data.toList.map fun u => (u.toNat : Int)
theorem nums_length (s : ByteArray) : (nums s).length = s.size := by rw [nums, List.length_map]; rfl
theorem nums_bytes (s : ByteArray) : Bytes (nums s) := by
  intro z hz
  simp only [nums, List.mem_map] at hz
  obtain ⟨u, _, rfl⟩ := hz
  have := u.toNat_lt
  omega
theorem nums_get (s : ByteArray) (i : Nat) (h : i < s.size) : (nums s).getD i 0 = ((s[i]).toNat : Int) := by
  have h' : i < s.data.toList.length := h
  rw [List.getD, nums, List.getElem?_map, List.getElem?_eq_getElem h']
  rfl
theorem nums_inj {s t : ByteArray} (h : nums s = nums t) : s = t := by
  obtain ⟨⟨a⟩⟩ := s
  obtain ⟨⟨b⟩⟩ := t
  have : a = b := by
    have h' : a.map (fun u => (u.toNat : Int)) = b.map fun u => (u.toNat : Int) := h
    exact (List.map_inj_right (fun x y e => by exact UInt8.toNat_inj.1 (by exact_mod_cast e))).1 h'
  rw [this]
theorem nums_str (zs : List Int) (h : Bytes zs) : nums (strOfNums zs) = zs := by
  unfold nums
  rw [strOfNums_data, List.map_map]
  conv => rhs; rw [← List.map_id zs]
  apply List.map_congr_left
  intro z hz
  have := h z hz
  simp only [Function.comp, id_eq, UInt8.toNat_ofNat']
  omega
theorem str_nums (s : ByteArray) : strOfNums (nums s) = s := nums_inj (nums_str _ (nums_bytes s))

/-- strings.IndexByte in the sixteen digits. -/
theorem digits_index : ∀ n : Fin 256, Lib.indexByte [48, 49, 50, 51, 52, 53, 54, 55, 56, 57, 97, 98, 99, 100, 101, 102] n.val.toUInt8 = dg n.val := by
  decide +kernel

end Go.Proofs.YtpihigcnoifcfaaGreatDoor
