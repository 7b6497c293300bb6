/- octet.digit and octet.Hex, as contracts. -/
import Derived.Test.YtegpceglhbgcnaaDoorHexa
import Derived.Test.YtegpceglhbgcnaaDoorMem2
import Derived.Deep.RegionLaw
namespace Go.Proofs.YtegpceglhbgcnaaDoor
open Go.RowKit

theorem and15 (z : Int) (h0 : 0 ≤ z) (h1 : z ≤ 255) : bits .and .u8 z 15 = z % 16 := by
  rw [u8_and z 15 h0 (by omega) (by omega) (by omega)]
  have : (15 : Int).toNat = 15 := rfl
  rw [this, nat_mask4]
  omega

theorem digits_fin : ∀ n : Fin 16, (((⟨#[48, 49, 50, 51, 52, 53, 54, 55, 56, 57, 97, 98, 99, 100, 101, 102]⟩ : ByteArray)[n.val]'(by have := n.isLt; exact this)).toNat : Int) = hd n.val := by
  decide +kernel

theorem digits_get (v : Int) (h0 : 0 ≤ v) (h1 : v < 16) (hh : v.toNat < (⟨#[48, 49, 50, 51, 52, 53, 54, 55, 56, 57, 97, 98, 99, 100, 101, 102]⟩ : ByteArray).size) :
    (((⟨#[48, 49, 50, 51, 52, 53, 54, 55, 56, 57, 97, 98, 99, 100, 101, 102]⟩ : ByteArray)[v.toNat]'hh).toNat : Int) = hd v := by
  have := digits_fin ⟨v.toNat, by omega⟩
  have e : ((v.toNat : Nat) : Int) = v := by omega
  simp only [e] at this
  exact this

theorem pair_reads (w : World) (a b : UInt8) : Reads ((w.alloc (.cells #[.int .u8 (a.toNat : Int), .int .u8 (b.toNat : Int)] 5)).drew) (.slice (some ⟨w.heap.size, 0, none⟩) 2 2) [(a.toNat : Int), (b.toNat : Int)] := by
  have ha := a.toNat_lt
  have hb := b.toNat_lt
  refine ⟨_, 2, rfl, Nat.le_refl _, fun h => by simp at h, ?_, fun _ => ⟨w.heap.size, 0, rfl, ?_⟩⟩
  · intro z hz
    simp at hz
    rcases hz with rfl | rfl <;> omega
  · intro i hi
    have hr : ((w.alloc (.cells #[.int .u8 (a.toNat : Int), .int .u8 (b.toNat : Int)] 5)).drew).heap[w.heap.size]? = some (.cells #[.int .u8 (a.toNat : Int), .int .u8 (b.toNat : Int)] 5 (0, 0)) := heap_alloc_new w _
    rw [cell_of_row _ _ _ _ _ _ hr]
    match i, hi with
    | 0, _ => rfl
    | 1, _ => rfl

set_option maxHeartbeats 1000000 in
theorem hex_row (g off c : Nat) (zs : List Int) (w : World) (hp : 0 < zs.length) (hby : Bytes zs) (hl : zs.length ≤ 140737488355328 - 4096) (hcell : ∀ i, i < zs.length → w.cell? ⟨g, off + i, none⟩ = some (.int .u8 (zs.getD i 0))) :
    Calls Tryd.prog 21 #[.slice (some ⟨g, off, none⟩) zs.length c] w fun e w' => e = .returned (.string (strOfNums (hexL zs))) ∧ Below w.heap.size w w' := by
  have hne : ((zs.length : Int) == 0) = false := beq_eq_false_iff_ne.2 (by omega)
  have HB := hidden hby
  clear hby
  go_enter Tryd.func21, Tryd.ntmps21
  go_wp2_with (at_make; refine wpList_mk _ rfl _ _ rfl _ _ _ _ 0 (2 * zs.length) rfl rfl (by rfl) (by omega) (by omega) (by omega) ?_; intro w1 hr1 hb1 hs1)
  have HO : Hid (Own w.heap.size w1 (.slice (some ⟨w.heap.size, 0, none⟩) 0 (2 * zs.length)) (hexL (zs.take 0)) (List.replicate (2 * zs.length) 0)) := by
    exact ⟨by simp [hexL]; exact Bytes.nil, Bytes.zeros _, by simp [hexL, maxLen]; omega, .inr ⟨_, [], Nat.le_refl _, by simp [hexL], by simpa [hexL] using hr1⟩⟩
  clear hr1 hs1
  go_loopw [3, 15] (fun t i wr => ∃ (k : Nat) (sp : List Int) (a : Option Addr) (q : Nat), k ≤ zs.length ∧ i = .int .i64 k ∧ t = .slice a (2 * k) q ∧ Hid (Own w.heap.size wr t (hexL (zs.take k)) sp) ∧ Hid (2 * k + sp.length = 2 * zs.length) ∧ Below w.heap.size w wr) (fun _ i _ => zs.length - (intOf i).toNat)
  case atStart => exact ⟨0, List.replicate (2 * zs.length) 0, _, _, by omega, rfl, rfl, HO, by show _ = _; simp, hb1⟩
  case round =>
    obtain ⟨k, sp, a, q, hk, rfl, rfl, hO, hS, hb⟩ := hrel
    by_cases hlt : k < zs.length
    · have hx0 := hcell k hlt
      have hx : wr.cell? ⟨g, off + k, none⟩ = some (.int .u8 (zs.getD k 0)) := (hb.cell (p := ⟨g, off + k, none⟩) (block_lt_of_cell hx0)).trans hx0
      have hz := HB.out.getD k
      have HT := hidden (take_snoc zs k hlt)
      generalize zs.getD k 0 = z at *
      have b1 : 0 ≤ z / 16 := by omega
      have b2 : z / 16 < 16 := by omega
      have b3 : 0 ≤ z % 16 := by omega
      have b4 : z % 16 < 16 := by omega
      have e2 : bits .and .u8 z 15 = z % 16 := and15 z hz.1 hz.2
      clear hx0 hcell
      go_wp2_with fail
      go_region_law (first | (refine step_app _ rfl _ _ rfl w.heap.size _ _ (hexL (zs.take k)) sp _ (hO.out.grow (grow_alloc _ _).drew) (pair_reads _ _ _) rfl rfl (.inl (by have := hS.out; simp; omega)) (by have := hb.size; simp; omega) ?_; intro v' w' sp' h1 h2 h3 h4 h5))
      all_goals
        rw [digits_get _ b1 b2, digits_get _ b3 b4] at h1
        have hO' : Hid (Own w.heap.size w' v' (hexL (zs.take (k + 1))) sp') := by
          rw [HT.out, hexL_snoc]
          exact h1
        have hS' : Hid (2 * (k + 1) + sp'.length = 2 * zs.length) := by
          have e1 := hS.out
          have e2 := h5 (by simp; omega)
          simp at e2
          show _ = _
          omega
        have hb' : Below w.heap.size w w' := (hb.trans (((grow_alloc wr _).drew).mono hb.size)).grown h2 (by have := hb.size; simp; omega) (fun k hk => (hO.out.lt k hk).1)
        have hlen : (hexL (zs.take (k + 1))).length = 2 * (k + 1) := by
          rw [hexL_length]; simp; omega
        obtain ⟨a', c', hv'⟩ := hO'.out.slice
        rw [hlen] at hv'
        subst hv'
        clear h1 h2 h3 h4 h5 hlen
        go_wp2
        exact ⟨⟨k + 1, sp', a', c', by omega, by go_num, by go_num, hO', hS', hb'⟩, by simp [intOf]; omega⟩
    · have hke : k = zs.length := by omega
      have hr := hO.out.reads
      rw [hke, List.take_of_length_le (Nat.le_refl _)] at hr
      have hc := conv_reads hr
      subst hke
      clear hO
      go_wp2
      go_ret
      exact ⟨rfl, hb⟩

set_option maxHeartbeats 400000 in
theorem hex_none (a : Option Addr) (c : Nat) (w : World) :
    Calls Tryd.prog 21 #[.slice a 0 c] w fun e w' => e = .returned (.string (strOfNums [45])) ∧ w' = w := by
  go_enter Tryd.func21, Tryd.ntmps21
  go_wp2
  go_ret
  exact ⟨rfl, rfl⟩

theorem hex_any (v : Value) (zs : List Int) (w : World) (h : Reads w v zs) (hl : zs.length ≤ 140737488355328 - 4096) :
    Calls Tryd.prog 21 #[v] w fun e w' => e = .returned (.string (strOfNums (hx zs))) ∧ Below w.heap.size w w' := by
  obtain ⟨a, c, rfl, h1, h2, h3, h4⟩ := h
  by_cases hz : zs = []
  · subst hz
    refine (hex_none a c w).mono ?_
    rintro e w' ⟨rfl, rfl⟩
    exact ⟨rfl, Below.refl _ _⟩
  · have hp : 0 < zs.length := List.length_pos_iff.2 hz
    obtain ⟨g, off, rfl, hc⟩ := h4 hp
    refine (hex_row g off c zs w hp h3 hl hc).mono ?_
    rintro e w' ⟨rfl, hb⟩
    refine ⟨?_, hb⟩
    unfold hx
    rw [if_neg hz]

end Go.Proofs.YtegpceglhbgcnaaDoor
