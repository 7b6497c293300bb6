/- The digest of the text abc, reckoned by the kernel. -/
import Derived.Test.YtlhnodinhmdjnaaGreatDoorVt04
import Derived.KernelRfl
import Derived.Test.YtlhnodinhmdjnaaGreatDoorVt01
import Derived.Lib.Bytealg
import Derived.Test.YtlhnodinhmdjnaaGreatDoorVt02
import Derived.Deep.RegionLaw
namespace Go.Proofs.YtlhnodinhmdjnaaGreatDoor
set_option maxRecDepth 20000
open Go.RowKit

theorem dig_abc : dig [97, 98, 99] = [186, 120, 22, 191, 143, 1, 207, 234, 65, 65, 64, 222, 93, 174, 34, 35, 176, 3, 97, 163, 150, 23, 122, 156, 180, 16, 255, 97, 242, 0, 21, 173] := by kernel_rfl

end Go.Proofs.YtlhnodinhmdjnaaGreatDoor

/- Digits of bytes, as plain lists: what Hex tells and Unhex reads, and that each is the other's way back. No word of the program. -/
namespace Go.Proofs.YtlhnodinhmdjnaaGreatDoor
set_option maxRecDepth 20000
open Go.RowKit

/-- What a sign stands for; -1: it is no digit. -/
def dg (c : Int) : Int := if 48 ≤ c ∧ c ≤ 57 then c - 48 else if 97 ≤ c ∧ c ≤ 102 then c - 87 else -1
/-- The sign of a number below 16. -/
def hd (v : Int) : Int := if v < 10 then 48 + v else 87 + v

theorem dg_bd (c : Int) : -1 ≤ dg c ∧ dg c ≤ 15 := by unfold dg; split <;> (try split) <;> omega
theorem dg_hd (v : Int) (h0 : 0 ≤ v) (h1 : v ≤ 15) : dg (hd v) = v := by unfold dg hd; split <;> (try split) <;> (try split) <;> omega
theorem hd_dg (c : Int) (h : 0 ≤ dg c) : hd (dg c) = c := by
  unfold dg at *
  unfold hd
  split at h <;> (try split at h) <;> split <;> (try split) <;> (try split) <;> omega
theorem hd_bd (v : Int) (h0 : 0 ≤ v) (h1 : v ≤ 15) : 48 ≤ hd v ∧ hd v ≤ 102 := by unfold hd; split <;> omega

/-- The digits of bytes. -/
def hexL (zs : List Int) : List Int := zs.flatMap fun z => [hd (z / 16), hd (z % 16)]
theorem hexL_length (zs : List Int) : (hexL zs).length = 2 * zs.length := by
  induction zs with
  | nil => rfl
  | cons z zs ih => simp [hexL] at *; omega
theorem hexL_snoc (zs : List Int) (z : Int) : hexL (zs ++ [z]) = hexL zs ++ [hd (z / 16), hd (z % 16)] := by simp [hexL]
theorem hexL_bytes {zs : List Int} (h : Bytes zs) : Bytes (hexL zs) := by
  intro x hx
  simp only [hexL, List.mem_flatMap] at hx
  obtain ⟨z, hz, hx⟩ := hx
  have hb := h z hz
  have h1 := hd_bd (z / 16) (by omega) (by omega)
  have h2 := hd_bd (z % 16) (by omega) (by omega)
  simp at hx
  rcases hx with rfl | rfl <;> omega
theorem hexL_get : ∀ (zs : List Int) (j : Nat), j < zs.length → (hexL zs).getD (2 * j) 0 = hd (zs.getD j 0 / 16) ∧ (hexL zs).getD (2 * j + 1) 0 = hd (zs.getD j 0 % 16)
  | z :: zs, 0, _ => by simp [hexL]
  | z :: zs, j + 1, h => by
    have := hexL_get zs j (by simpa using h)
    have e : hexL (z :: zs) = hd (z / 16) :: hd (z % 16) :: hexL zs := by simp [hexL]
    rw [e, show 2 * (j + 1) = 2 * j + 2 by omega, show 2 * j + 2 + 1 = 2 * j + 1 + 2 by omega]
    simpa using this

/-- The first m pairs are digits. -/
def Good (l : List Int) (m : Nat) : Prop := ∀ j, j < m → 0 ≤ dg (l.getD (2 * j) 0) ∧ 0 ≤ dg (l.getD (2 * j + 1) 0)
/-- The byte of pair j. -/
def pr (l : List Int) (j : Nat) : Int := 16 * dg (l.getD (2 * j) 0) + dg (l.getD (2 * j + 1) 0)
/-- The bytes of the first m pairs. -/
def prs (l : List Int) (m : Nat) : List Int := (List.range m).map (pr l)
theorem prs_length (l : List Int) (m : Nat) : (prs l m).length = m := by simp [prs]
theorem prs_succ (l : List Int) (m : Nat) : prs l (m + 1) = prs l m ++ [pr l m] := by simp [prs, List.range_succ]
theorem pr_bd (l : List Int) (j m : Nat) (h : Good l m) (hj : j < m) : 0 ≤ pr l j ∧ pr l j ≤ 255 := by
  have h1 := h j hj
  have h2 := dg_bd (l.getD (2 * j) 0)
  have h3 := dg_bd (l.getD (2 * j + 1) 0)
  unfold pr
  omega
theorem prs_bytes (l : List Int) (m : Nat) (h : Good l m) : Bytes (prs l m) := by
  intro z hz
  simp only [prs, List.mem_map, List.mem_range] at hz
  obtain ⟨j, hj, rfl⟩ := hz
  exact pr_bd l j m h hj

/-- The same, as a test. -/
def goodB (l : List Int) (m : Nat) : Bool := (List.range m).all fun j => decide (0 ≤ dg (l.getD (2 * j) 0)) && decide (0 ≤ dg (l.getD (2 * j + 1) 0))
theorem goodB_iff (l : List Int) (m : Nat) : goodB l m = true ↔ Good l m := by
  simp only [goodB, Good, List.all_eq_true, List.mem_range, Bool.and_eq_true, decide_eq_true_eq]

/-- What Unhex reads: the error and the bytes. -/
def uh (l : List Int) : Int × List Int :=
  if 65536 < l.length then (4, []) else if l = [45] then (0, []) else if l.length = 0 ∨ l.length % 2 = 1 then (110, []) else
  if goodB l (l.length / 2) = true then (0, prs l (l.length / 2)) else (110, [])

/-- What Hex tells. -/
def hx (zs : List Int) : List Int := if zs = [] then [45] else hexL zs

theorem hx_bytes {zs : List Int} (h : Bytes zs) : Bytes (hx zs) := by
  unfold hx
  split
  · intro z hz; simp at hz; omega
  · exact hexL_bytes h

theorem list_ext_getD {a b : List Int} (hl : a.length = b.length) (h : ∀ i, i < a.length → a.getD i 0 = b.getD i 0) : a = b := by
  apply List.ext_getElem hl
  intro i h1 h2
  have := h i h1
  simpa [List.getD, h1, h2] using this

/-- There and back: bytes. -/
theorem uh_hx (zs : List Int) (hb : Bytes zs) (hl : zs.length ≤ 32768) : uh (hx zs) = (0, zs) := by
  unfold hx
  split
  · rename_i h; subst h; simp [uh]
  · rename_i h
    have hp : 0 < zs.length := List.length_pos_iff.2 h
    have hlen := hexL_length zs
    have hg : Good (hexL zs) ((hexL zs).length / 2) := by
      intro j hj
      rw [hlen] at hj
      obtain ⟨e1, e2⟩ := hexL_get zs j (by omega)
      have hz := hb.getD j
      rw [e1, e2, dg_hd _ (by omega) (by omega), dg_hd _ (by omega) (by omega)]
      omega
    have e : prs (hexL zs) ((hexL zs).length / 2) = zs := by
      have hm : (hexL zs).length / 2 = zs.length := by omega
      rw [hm]
      apply list_ext_getD (prs_length _ _)
      intro i hi
      rw [prs_length] at hi
      obtain ⟨e1, e2⟩ := hexL_get zs i hi
      have hz := hb.getD i
      have : (prs (hexL zs) zs.length).getD i 0 = pr (hexL zs) i := by simp [prs, List.getD, hi]
      rw [this]
      unfold pr
      rw [e1, e2, dg_hd _ (by omega) (by omega), dg_hd _ (by omega) (by omega)]
      omega
    unfold uh
    rw [if_neg (by omega), if_neg (by intro e; rw [e] at hlen; simp at hlen; omega), if_neg (by omega), if_pos ((goodB_iff _ _).2 hg), e]

/-- There and back: digits. -/
theorem hx_uh (l : List Int) (h : (uh l).1 = 0) : hx (uh l).2 = l := by
  unfold uh at *
  split at h
  · simp at h
  · rename_i h1
    rw [if_neg h1]
    split at h
    · rename_i h2; rw [if_pos h2, h2]; simp [hx]
    · rename_i h2
      rw [if_neg h2]
      split at h
      · simp at h
      · rename_i h3
        rw [if_neg h3]
        split at h
        · rename_i h4
          rw [if_pos h4]
          have h4 := (goodB_iff _ _).1 h4
          show hx (prs l (l.length / 2)) = l
          have hm : 0 < l.length / 2 := by omega
          have hne : prs l (l.length / 2) ≠ [] := by
            intro e
            have := prs_length l (l.length / 2)
            rw [e] at this
            simp at this
            omega
          unfold hx
          rw [if_neg hne]
          have hlen := hexL_length (prs l (l.length / 2))
          rw [prs_length] at hlen
          apply list_ext_getD (by omega)
          intro i hi
          have hj : i / 2 < (prs l (l.length / 2)).length := by rw [prs_length]; omega
          obtain ⟨e1, e2⟩ := hexL_get _ (i / 2) hj
          rw [prs_length] at hj
          have hp : (prs l (l.length / 2)).getD (i / 2) 0 = pr l (i / 2) := by simp [prs, List.getD, hj]
          obtain ⟨g1, g2⟩ := h4 (i / 2) hj
          have b1 := dg_bd (l.getD (2 * (i / 2)) 0)
          have b2 := dg_bd (l.getD (2 * (i / 2) + 1) 0)
          rw [hp] at e1 e2
          unfold pr at e1 e2
          rcases (show i = 2 * (i / 2) ∨ i = 2 * (i / 2) + 1 by omega) with e | e
          · rw [show (16 * dg (l.getD (2 * (i / 2)) 0) + dg (l.getD (2 * (i / 2) + 1) 0)) / 16 = dg (l.getD (2 * (i / 2)) 0) by omega, hd_dg _ g1, ← e] at e1
            exact e1
          · rw [show (16 * dg (l.getD (2 * (i / 2)) 0) + dg (l.getD (2 * (i / 2) + 1) 0)) % 16 = dg (l.getD (2 * (i / 2) + 1) 0) by omega, hd_dg _ g2, ← e] at e2
            exact e2
        · simp at h

theorem uh_len (l : List Int) : (uh l).2.length ≤ 32768 := by
  unfold uh
  split
  · simp
  · split
    · simp
    · split
      · simp
      · split
        · rw [prs_length]; omega
        · simp

/-- A text's bytes as numbers. -/
def nums (s : ByteArray) : List Int := s.data.toList.map fun u => (u.toNat : Int)
theorem nums_length (s : ByteArray) : (nums s).length = s.size := by rw [nums, List.length_map]; rfl
theorem nums_bytes (s : ByteArray) : Bytes (nums s) := by
  intro z hz
  simp only [nums, List.mem_map] at hz
  obtain ⟨u, _, rfl⟩ := hz
  have := u.toNat_lt
  omega
theorem nums_get (s : ByteArray) (i : Nat) (h : i < s.size) : (nums s).getD i 0 = ((s[i]).toNat : Int) := by
  have h' : i < s.data.toList.length := h
  rw [List.getD, nums, List.getElem?_map, List.getElem?_eq_getElem h']
  rfl
theorem nums_inj {s t : ByteArray} (h : nums s = nums t) : s = t := by
  obtain ⟨⟨a⟩⟩ := s
  obtain ⟨⟨b⟩⟩ := t
  have : a = b := by
    have h' : a.map (fun u => (u.toNat : Int)) = b.map fun u => (u.toNat : Int) := h
    exact (List.map_inj_right (fun x y e => by exact UInt8.toNat_inj.1 (by exact_mod_cast e))).1 h'
  rw [this]
theorem nums_str (zs : List Int) (h : Bytes zs) : nums (strOfNums zs) = zs := by
  unfold nums
  rw [strOfNums_data, List.map_map]
  conv => rhs; rw [← List.map_id zs]
  apply List.map_congr_left
  intro z hz
  have := h z hz
  simp only [Function.comp, id_eq, UInt8.toNat_ofNat']
  omega
theorem str_nums (s : ByteArray) : strOfNums (nums s) = s := nums_inj (nums_str _ (nums_bytes s))

/-- strings.IndexByte in the sixteen digits. -/
theorem digits_index : ∀ n : Fin 256, Lib.indexByte [48, 49, 50, 51, 52, 53, 54, 55, 56, 57, 97, 98, 99, 100, 101, 102] n.val.toUInt8 = dg n.val := by
  decide +kernel

end Go.Proofs.YtlhnodinhmdjnaaGreatDoor

/- octet.digit and octet.Hex, as contracts. -/
namespace Go.Proofs.YtlhnodinhmdjnaaGreatDoor
set_option maxRecDepth 20000
open Go.RowKit

theorem and15 (z : Int) (h0 : 0 ≤ z) (h1 : z ≤ 255) : bits .and .u8 z 15 = z % 16 := by
  rw [u8_and z 15 h0 (by omega) (by omega) (by omega)]
  have : (15 : Int).toNat = 15 := rfl
  rw [this, nat_mask4]
  omega

theorem digits_fin : ∀ n : Fin 16, (((⟨#[48, 49, 50, 51, 52, 53, 54, 55, 56, 57, 97, 98, 99, 100, 101, 102]⟩ : ByteArray)[n.val]'(by have := n.isLt; exact this)).toNat : Int) = hd n.val := by
  decide +kernel

theorem digits_get (v : Int) (h0 : 0 ≤ v) (h1 : v < 16) (hh : v.toNat < (⟨#[48, 49, 50, 51, 52, 53, 54, 55, 56, 57, 97, 98, 99, 100, 101, 102]⟩ : ByteArray).size) :
    (((⟨#[48, 49, 50, 51, 52, 53, 54, 55, 56, 57, 97, 98, 99, 100, 101, 102]⟩ : ByteArray)[v.toNat]'hh).toNat : Int) = hd v := by
  have := digits_fin ⟨v.toNat, by omega⟩
  have e : ((v.toNat : Nat) : Int) = v := by omega
  simp only [e] at this
  exact this

theorem pair_reads (w : World) (a b : UInt8) : Reads ((w.alloc (.cells #[.int .u8 (a.toNat : Int), .int .u8 (b.toNat : Int)] 5)).drew) (.slice (some ⟨w.heap.size, 0, none⟩) 2 2) [(a.toNat : Int), (b.toNat : Int)] := by
  have ha := a.toNat_lt
  have hb := b.toNat_lt
  refine ⟨_, 2, rfl, Nat.le_refl _, fun h => by simp at h, ?_, fun _ => ⟨w.heap.size, 0, rfl, ?_⟩⟩
  · intro z hz
    simp at hz
    rcases hz with rfl | rfl <;> omega
  · intro i hi
    have hr : ((w.alloc (.cells #[.int .u8 (a.toNat : Int), .int .u8 (b.toNat : Int)] 5)).drew).heap[w.heap.size]? = some (.cells #[.int .u8 (a.toNat : Int), .int .u8 (b.toNat : Int)] 5 (0, 0)) := heap_alloc_new w _
    rw [cell_of_row _ _ _ _ _ _ hr]
    match i, hi with
    | 0, _ => rfl
    | 1, _ => rfl

end Go.Proofs.YtlhnodinhmdjnaaGreatDoor
