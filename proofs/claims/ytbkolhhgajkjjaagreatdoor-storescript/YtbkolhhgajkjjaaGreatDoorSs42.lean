/- ApartBytes, as a contract: lists of bytes of the call's own, no two of one block, are told to be apart, and behind the call memory is as it was. -/
import Derived.Test.YtbkolhhgajkjjaaGreatDoorSs01
import Derived.Test.YtbkolhhgajkjjaaGreatDoorSs14
import Derived.Deep.RegionHeld2
import Derived.Deep.QuietTactic
import Derived.BigQuiet
import Derived.Test.YtbkolhhgajkjjaaGreatDoorSs04
import Derived.Test.YtbkolhhgajkjjaaGreatDoorSs33
import Derived.Test.YtbkolhhgajkjjaaGreatDoorSs36
import Derived.Test.YtbkolhhgajkjjaaGreatDoorSs34
import Derived.Test.YtbkolhhgajkjjaaGreatDoorSs16
namespace Go.Proofs.YtbkolhhgajkjjaaGreatDoor
set_option maxRecDepth 20000
open Go.RowKit

theorem u_strings : Tryz.prog.underlying 170 = some (.slice 9) := Tryz.underlying170
theorem info_string : (Tryz.prog.info? 9).map (fun i => (i.zero, i.size, i.bytes)) = some (some (.string ByteArray.empty), 1, 16) := by kernel_rfl

def SRow (w : World) (g : Nat) (ss : List ByteArray) : Prop := w.heap[g]? = some (.cells (ss.map Value.string).toArray 9 (0, 0))

theorem SRow.cell {w : World} {g : Nat} {ss : List ByteArray} (h : SRow w g ss) (i : Nat) (hi : i < ss.length) : w.cell? ⟨g, i, none⟩ = some (.string (ss.getD i ByteArray.empty)) := by
  rw [cell_of_row w g i _ _ _ h]
  simp [List.getD, hi]
theorem SRow.frozen {w : World} {g : Nat} {ss : List ByteArray} (h : SRow w g ss) (i : Nat) : w.frozen? ⟨g, i, none⟩ = false := frozen_of_row w g i _ _ h
theorem SRow.set {w : World} {g : Nat} {ss : List ByteArray} (h : SRow w g ss) (i : Nat) (s : ByteArray) : SRow (w.setCell ⟨g, i, none⟩ (.string s)) g (ss.set i s) := by
  unfold SRow
  rw [heap_setCell_same w g i _ _ _ h]
  congr 2
  apply Array.ext'
  simp [List.map_set]
theorem wpList_mks {ops : Array Oper} {rest : List Oper} {o : Oper} {a : Act} {Q : Exit → Act → World → Prop} (w : World) (hgd : o.guard = none) (x y : Operand)
    (hop : o.op = Op.makeSlice 170 x y) (kl kc : IntKind) (L C : Int) (n : Nat) (hx : a.eval x = .int kl L) (hy : a.eval y = .int kc C) (hL : L = (n : Int)) (hC : C = (n : Int)) (hn : n ≤ 17592186044416)
    (h : ∀ w', SRow w' w.heap.size (List.replicate n ByteArray.empty) → Below w.heap.size w w' → w'.heap.size = w.heap.size + 1 → wpList Tryz.prog ops Q rest (a.put o.dst (.slice (some ⟨w.heap.size, 0, none⟩) n n)) w') :
    wpList Tryz.prog ops Q (o :: rest) a w := by
  refine wpList_plain hgd fun K hK => ?_
  obtain ⟨i, hi, hz, hs, hby⟩ := info_parts info_string
  subst hL
  subst hC
  have hr := run_make (P := Tryz.prog) w 170 9 i _ u_strings hi hz kl kc n n (by omega) (by omega) (by rw [hby]; omega) (by omega)
  rw [hs, Nat.mul_one] at hr
  simp only [Int.toNat_natCast] at hr
  have hm : madeCells (Value.cells (.string ByteArray.empty)) n = ((List.replicate n ByteArray.empty).map Value.string).toArray := by
    apply Array.ext'
    have h := toList_madeCells_one (.string ByteArray.empty) n
    simp only [Value.cells] at *
    rw [h]
    simp
  rw [hm] at hr
  unfold Oper.wp
  simp [execOp, hop, hx, hy, hr, Result.andThen]
  exact hK _ _ (h _ (by unfold SRow; rw [show ((List.replicate n ByteArray.empty).map Value.string).toArray = Array.replicate n (Value.string ByteArray.empty) by simp]; exact heap_alloc_new w _) (grow_alloc w _) (by simp))

structure Lists (base gl off n : Nat) (V : Nat → Value) (Z S : Nat → List Int) (w : World) : Prop where
  cell : ∀ i, i < n → w.cell? ⟨gl, off + i, none⟩ = some (V i)
  own : ∀ i, i < n → Own base w (V i) (Z i) (S i)
  apart : ∀ i k, i < n → k < n → i ≠ k → ∀ g, (V i).ownBlock = some g → (V k).ownBlock ≠ some g
  far : ∀ i, i < n → (V i).ownBlock ≠ some gl

def txt (Z S : Nat → List Int) (k : Nat) : ByteArray := strOfNums (Z k ++ S k)

theorem txts_set (Z S : Nat → List Int) (n k : Nat) (h : k < n) : ((List.range k).map (txt Z S) ++ List.replicate (n - k) ByteArray.empty).set k (txt Z S k) = (List.range (k + 1)).map (txt Z S) ++ List.replicate (n - (k + 1)) ByteArray.empty := by
  have e : List.replicate (n - k) ByteArray.empty = ByteArray.empty :: List.replicate (n - (k + 1)) ByteArray.empty := by
    rw [show n - k = (n - (k + 1)) + 1 by omega]; rfl
  rw [e, List.set_append_right _ _ (by simp), List.range_succ]
  simp

end Go.Proofs.YtbkolhhgajkjjaaGreatDoor

namespace Go.Proofs.YtbkolhhgajkjjaaGreatDoor
set_option maxRecDepth 20000
open Go.RowKit

theorem Blk.bput {w : World} {g : Nat} {t : TypeId} {zs : List Int} (h : Blk w g t (B zs)) (i : Nat) (z : Int) : Blk (w.setCell ⟨g, i, none⟩ (.int .u8 z)) g t (B (zs.set i z)) := by
  have := h.set i (.int .u8 z)
  rw [B_set] at this
  exact this

def OwnT (base : Nat) (w : World) (v : Value) (zs sp : List Int) : Prop :=
  Bytes zs ∧ Bytes sp ∧ zs.length + sp.length ≤ maxLen ∧
  ((v = .slice none 0 0 ∧ zs = [] ∧ sp = []) ∨ ∃ g t rest, base ≤ g ∧ v = .slice (some ⟨g, 0, none⟩) zs.length (zs.length + sp.length) ∧ Blk w g t (B (zs ++ sp ++ rest)))

theorem Own.toT {base : Nat} {w : World} {v : Value} {zs sp : List Int} (h : Own base w v zs sp) : OwnT base w v zs sp := by
  obtain ⟨h1, h2, h3, h4⟩ := h
  refine ⟨h1, h2, h3, ?_⟩
  rcases h4 with h4 | ⟨g, rest, hg, h5, h6⟩
  · exact .inl h4
  · exact .inr ⟨g, _, rest, hg, h5, h6⟩

theorem OwnT.slice {b : Nat} {w : World} {v : Value} {zs sp : List Int} (h : OwnT b w v zs sp) : ∃ a c, v = .slice a zs.length c := by
  obtain ⟨_, _, _, h4⟩ := h
  rcases h4 with ⟨rfl, rfl, rfl⟩ | ⟨g, t, rest, hg, rfl, h5⟩
  · exact ⟨_, _, rfl⟩
  · exact ⟨_, _, rfl⟩

theorem OwnT.of_block {b : Nat} {w w' : World} {v : Value} {zs sp : List Int} (h : OwnT b w v zs sp) (hw : ∀ k, v.ownBlock = some k → w'.heap[k]? = w.heap[k]?) : OwnT b w' v zs sp := by
  obtain ⟨h1, h2, h3, h4⟩ := h
  refine ⟨h1, h2, h3, ?_⟩
  rcases h4 with h4 | ⟨g, t, rest, hg, rfl, h5⟩
  · exact .inl h4
  · exact .inr ⟨g, t, rest, hg, rfl, h5.of_block (hw g rfl)⟩

theorem OwnT.lt {b : Nat} {w : World} {v : Value} {zs sp : List Int} (h : OwnT b w v zs sp) : ∀ k, v.ownBlock = some k → b ≤ k ∧ k < w.heap.size := by
  obtain ⟨h1, h2, h3, h4⟩ := h
  intro k hk
  rcases h4 with ⟨rfl, _⟩ | ⟨g, t, rest, hg, rfl, h5⟩
  · simp [Value.ownBlock] at hk
  · simp only [Value.ownBlock, Option.some.injEq] at hk
    subst hk
    exact ⟨hg, h5.lt⟩

theorem OwnT.grow {b : Nat} {w w' : World} {v : Value} {zs sp : List Int} (h : OwnT b w v zs sp) (hb : Below w.heap.size w w') : OwnT b w' v zs sp := h.of_block fun k hk => hb.block k (h.lt k hk).2

set_option maxHeartbeats 400000 in
theorem over_rowT (g n : Nat) (t : TypeId) (zs rest : List Int) (w : World) (h : Blk w g t (B (zs ++ rest))) (hl : zs.length ≤ maxLen) :
    Calls Tryz.prog 26 #[.slice (some ⟨g, 0, none⟩) n zs.length] w fun e w' => e = .returned (.tuple #[]) ∧ Blk w' g t (B (zs.map x5 ++ rest)) ∧ w.grownBy w' (some g) ∧ w'.heap.size = w.heap.size := by
  unfold maxLen at hl
  have HR : Hid (Blk w g t (B (((zs.take 0).map x5 ++ zs.drop 0) ++ rest))) := by
    show Blk _ _ _ _
    simpa using h
  clear h
  go_enter Tryz.func26, Tryz.ntmps26
  go_wp2_with fail
  go_loopw [3] (fun i wr => ∃ k : Nat, k ≤ zs.length ∧ i = .int .i64 k ∧ Hid (Blk wr g t (B (((zs.take k).map x5 ++ zs.drop k) ++ rest))) ∧ w.grownBy wr (some g) ∧ wr.heap.size = w.heap.size) (fun i _ => zs.length - (intOf i).toNat)
  case atStart => exact ⟨0, by omega, by simp, HR, World.grownBy.refl _ _, rfl⟩
  case round =>
    obtain ⟨k, hk, rfl, hr, hb, hs⟩ := hrel
    by_cases hlt : k < zs.length
    · have hL : ((zs.take k).map x5 ++ zs.drop k).length = zs.length := by simp; omega
      have hc := hr.out.bcell k (by rw [List.length_append]; omega)
      rw [show (((zs.take k).map x5 ++ zs.drop k) ++ rest).getD k 0 = ((zs.take k).map x5 ++ zs.drop k).getD k 0 by simp only [List.getD]; rw [List.getElem?_append_left (by omega)], over_get zs k hlt] at hc
      have hf := hr.out.frozen k
      have this := hr.out.bput k (x5 (zs.getD k 0))
      rw [List.set_append_left _ _ (by omega), over_round zs k hlt] at this
      generalize zs.getD k 0 = z at hc this
      have HT := hidden this
      clear this hL
      go_wp2
      refine ⟨⟨k + 1, by omega, by go_num, ?_, grown_trans hb (grown_setCell _ _ _ _), by simpa using hs⟩, by simp [intOf]; omega⟩
      exact HT
    · go_wp2
      go_end0
      refine ⟨rfl, ?_, hb, hs⟩
      have := hr.out
      rw [List.take_of_length_le (by omega), List.drop_of_length_le (by omega), List.append_nil] at this
      exact this

theorem OwnT.full {b : Nat} {w : World} {a : Option Addr} {l c : Nat} {zs sp : List Int} (h : OwnT b w (.slice a l c) zs sp) : Reads w (.slice a c c) (zs ++ sp) ∧ c = zs.length + sp.length ∧ l = zs.length ∧ c ≤ maxLen := by
  obtain ⟨h1, h2, h3, h4⟩ := h
  rcases h4 with ⟨e, rfl, rfl⟩ | ⟨g, t, rest, hg, e, h5⟩
  · injection e with e1 e2 e3
    subst e1; subst e2; subst e3
    exact ⟨Reads.nil _, rfl, rfl, by simp [maxLen]⟩
  · injection e with e1 e2 e3
    subst e1; subst e2; subst e3
    refine ⟨⟨_, _, by rw [List.length_append], by simp, fun h => by simp at h, h1.append h2, fun _ => ⟨g, 0, rfl, fun i hi => ?_⟩⟩, rfl, rfl, h3⟩
    rw [Nat.zero_add, h5.bcell i (by simp at hi ⊢; omega)]
    simp only [List.getD]
    rw [List.getElem?_append_left hi]

theorem over_pairT (base : Nat) (v : Value) (zs sp : List Int) (w : World) (h : OwnT base w v zs sp) :
    Calls Tryz.prog 26 #[v] w fun e w1 => e = .returned (.tuple #[]) ∧ w.grownBy w1 v.ownBlock ∧ w1.heap.size = w.heap.size ∧
      ∀ w2, (∀ k, v.ownBlock = some k → w2.heap[k]? = w1.heap[k]?) → Calls Tryz.prog 26 #[v] w2 fun e w3 => e = .returned (.tuple #[]) ∧ w2.grownBy w3 v.ownBlock ∧ w3.heap.size = w2.heap.size ∧ ∀ k, v.ownBlock = some k → w3.heap[k]? = w.heap[k]? := by
  obtain ⟨h1, h2, h3, h4⟩ := h
  rcases h4 with ⟨rfl, rfl, rfl⟩ | ⟨g, t, rest, hg, rfl, hr⟩
  · refine (over_nil w).mono ?_
    rintro e w' ⟨rfl, rfl⟩
    refine ⟨rfl, World.grownBy.refl _ _, rfl, fun w2 _ => ?_⟩
    refine (over_nil w2).mono ?_
    rintro e w3 ⟨rfl, rfl⟩
    exact ⟨rfl, World.grownBy.refl _ _, rfl, fun k hk => by simp [Value.ownBlock] at hk⟩
  · have := over_rowT g zs.length t (zs ++ sp) rest w hr (by simpa using h3)
    rw [List.length_append] at this
    refine this.mono ?_
    rintro e w1 ⟨rfl, hr1, hg1, hs1⟩
    refine ⟨rfl, hg1, hs1, fun w2 hw2 => ?_⟩
    have hr2 : Blk w2 g t (B ((zs ++ sp).map x5 ++ rest)) := hr1.of_block (hw2 g rfl)
    have this2 := over_rowT g zs.length t ((zs ++ sp).map x5) rest w2 hr2 (by simpa using h3)
    rw [List.length_map, List.length_append] at this2
    refine this2.mono ?_
    rintro e w3 ⟨rfl, hr3, hg3, hs3⟩
    refine ⟨rfl, hg3, hs3, fun k hk => ?_⟩
    simp only [Value.ownBlock, Option.some.injEq] at hk
    subst hk
    rw [map_x5 (h1.append h2)] at hr3
    unfold Blk at hr hr3
    rw [hr, hr3]

structure ListsT (base gl off n : Nat) (V : Nat → Value) (Z S : Nat → List Int) (w : World) : Prop where
  cell : ∀ i, i < n → w.cell? ⟨gl, off + i, none⟩ = some (V i)
  own : ∀ i, i < n → OwnT base w (V i) (Z i) (S i)
  apart : ∀ i k, i < n → k < n → i ≠ k → ∀ g, (V i).ownBlock = some g → (V k).ownBlock ≠ some g
  far : ∀ i, i < n → (V i).ownBlock ≠ some gl

theorem ListsT.of_block {base gl off n : Nat} {V : Nat → Value} {Z S : Nat → List Int} {w w' : World} (h : ListsT base gl off n V Z S w) (hw : ∀ k, k < w.heap.size → w'.heap[k]? = w.heap[k]?) : ListsT base gl off n V Z S w' where
  cell := fun i hi => by
    have := h.cell i hi
    have hlt := block_lt_of_cell this
    rw [World.cell?_of_block (w := w) (hw _ hlt)]
    exact this
  own := fun i hi => (h.own i hi).of_block fun k hk => hw k ((h.own i hi).lt k hk).2
  apart := h.apart
  far := h.far

set_option maxRecDepth 100000 in
set_option maxHeartbeats 4000000 in
theorem apart_walkT (base gl off n cap : Nat) (V : Nat → Value) (Z S : Nat → List Int) (w : World) (hn : n ≤ 17592186044416) (h : ListsT base gl off n V Z S w) (hcap : n ≤ cap) :
    Calls Tryz.prog 103 #[.slice (some ⟨gl, off, none⟩) n cap] w fun e w' => e = .returned (.bool true) ∧ Below w.heap.size w w' := by
  have H := hidden h
  clear h
  go_enter Tryz.func103, Tryz.ntmps103
  go_wp2_with fail
  go_loopw [3] (fun i wr => ∃ k : Nat, k ≤ n ∧ i = .int .i64 k ∧ Below w.heap.size w wr) (fun i _ => n - (intOf i).toNat)
  case atStart => exact ⟨0, by omega, rfl, Below.refl _ _⟩
  case round =>
    obtain ⟨i, hi, rfl, hb⟩ := hrel
    obtain ⟨wo, rfl⟩ : ∃ x, x = wr := ⟨_, rfl⟩
    by_cases hlt : i < n
    · have HW := hidden (H.out.of_block (w' := wo) (fun k hk => hb.block k hk))
      go_wp2_with (at_make; refine wpList_mks _ rfl _ _ rfl _ _ _ _ n rfl rfl rfl rfl hn ?_; intro w1 hr1 hb1 hs1)
      have HR1 : Hid (SRow w1 wo.heap.size ((List.range 0).map (txt Z S) ++ List.replicate (n - 0) ByteArray.empty)) := by
        show SRow _ _ _
        simpa using hr1
      clear hr1
      go_loopw [5] (fun j wk => ∃ k : Nat, k ≤ n ∧ j = .int .i64 k ∧ Hid (SRow wk wo.heap.size ((List.range k).map (txt Z S) ++ List.replicate (n - k) ByteArray.empty)) ∧ Below wo.heap.size wo wk ∧ wk.heap.size = wo.heap.size + 1) (fun j _ => n - (intOf j).toNat)
      case atStart => exact ⟨0, by omega, rfl, HR1, hb1, hs1⟩
      case round =>
        obtain ⟨k, hk, rfl, hS, hbk, hsk⟩ := hrel
        obtain ⟨wk, rfl⟩ : ∃ x, x = wr := ⟨_, rfl⟩
        by_cases hkn : k < n
        · obtain ⟨a, c, hv⟩ := (HW.out.own k hkn).slice
          have hcell := HW.out.cell k hkn
          have hown := HW.out.own k hkn
          rw [hv] at hcell hown
          have hful := hown.full
          generalize (Z k).length = l at *
          have HC : Hid (∀ w', Below wo.heap.size wo w' → w'.cell? ⟨gl, off + k, none⟩ = some (.slice a l c) ∧ (convert 32 9 (.slice a c c)).run Tryz.prog w' = .ok (.string (txt Z S k)) w') :=
            fun w' hw' => ⟨(hw'.cell (p := ⟨gl, off + k, none⟩) (block_lt_of_cell hcell)).trans hcell, conv_reads (hful.1.grow hw')⟩
          have hcm : c ≤ 9223372036854775807 := by have := hful.2.2.2; simp only [maxLen] at this; omega
          have hsc := hS.out.cell k (by simp; omega)
          have hsf := hS.out.frozen k
          have kk : (k : Int) < (n : Int) := by omega
          have k0 : (0 : Int) ≤ (k : Int) := by omega
          have HTS : Hid (SRow (wk.setCell ⟨wo.heap.size, k, none⟩ (.string (txt Z S k))) wo.heap.size ((List.range (k + 1)).map (txt Z S) ++ List.replicate (n - (k + 1)) ByteArray.empty)) := by
            have := hS.out.set k (txt Z S k)
            rw [txts_set Z S n k hkn] at this
            exact this
          generalize txt Z S k = tx at *
          generalize ((List.range k).map (txt Z S) ++ List.replicate (n - k) ByteArray.empty).getD k ByteArray.empty = old at *
          have hbd := hbk.drew
          have hbs : Below wo.heap.size wo ((wk.setCell ⟨wo.heap.size, k, none⟩ (.string tx)).drew) := (hbk.setCell (Nat.le_refl _) _).drew
          clear hown hful hcell
          go_wp2_with fail
          go_region_held2 (fun w' => w'.cell? ⟨gl, off + k, none⟩ = some (.slice a l c) ∧ (convert 32 9 (.slice a c c)).run Tryz.prog w' = .ok (.string tx) w')
            (first | exact HC.out _ hbd | exact HC.out _ hbs)
            (fail)
          go_wp2
          exact ⟨⟨k + 1, by omega, by go_num, HTS, hbs, by simpa using hsk⟩, by simp [intOf]; omega⟩
        · have hke : k = n := by omega
          subst hke
          have HLk := hidden (HW.out.of_block (w' := wk) (fun j hj => hbk.block j hj))
          obtain ⟨a, c, hv⟩ := (HW.out.own i hlt).slice
          have hci := HLk.out.cell i hlt
          rw [hv] at hci
          have hgl : gl < wo.heap.size := block_lt_of_cell (HW.out.cell i hlt)
          have HOV := hidden (over_pairT base (V i) (Z i) (S i) wk (HLk.out.own i hlt))
          have hfar := HW.out.far i hlt
          have HFAR := hidden hfar
          have HV := hidden hv
          have ki : (i : Int) < (k : Int) := by omega
          have i0 : (0 : Int) ≤ (i : Int) := by omega
          rw [hv] at HOV
          generalize (Z i).length = l at *
          clear hv hfar
          go_wp2_with (go_at_call 26; refine HOV.out.mono ?_; rintro e w2 ⟨rfl, hg2, hs2, hpair⟩)
          have HPR := hidden hpair
          have HG2 := hidden hg2
          clear hpair hg2
          -- what holds behind the first writing over
          have hci2 : w2.cell? ⟨gl, off + i, none⟩ = some (.slice a l c) := by
            refine HG2.out.cell hci ?_
            intro e
            exact HFAR.out (by rw [HV.out]; exact e.symm)
          have HT : Hid (∀ j, j < k → j ≠ i → ∃ aj lj cj, w2.cell? ⟨gl, off + j, none⟩ = some (.slice aj lj cj) ∧ cj ≤ 9223372036854775807 ∧ (∀ d, (convert 32 9 (.slice aj cj cj)).run Tryz.prog (w2.drewN d) = .ok (.string (txt Z S j)) (w2.drewN d)) ∧ w2.cell? ⟨wo.heap.size, j, none⟩ = some (.string (txt Z S j))) := by
            intro j hj hji
            obtain ⟨aj, cj, hvj⟩ := (HW.out.own j hj).slice
            have hcj := HLk.out.cell j hj
            have hoj := HLk.out.own j hj
            have hne : (V j).ownBlock ≠ (Value.slice a l c).ownBlock ∨ (V j).ownBlock = none := by
              cases hb : (V j).ownBlock with
              | none => exact .inr rfl
              | some g =>
                refine .inl (fun e => ?_)
                exact HW.out.apart j i hj hlt hji g hb (by rw [HV.out]; exact e.symm)
            have hoj2 : OwnT base w2 (V j) (Z j) (S j) := by
              refine hoj.of_block (fun g hg => HG2.out.block g (hoj.lt g hg).2 ?_)
              rcases hne with h | h
              · rw [← hg]; exact h
              · rw [h] at hg; cases hg
            rw [hvj] at hcj hoj2
            have hful := hoj2.full
            refine ⟨aj, _, cj, HG2.out.cell hcj ?_, by have := hful.2.2.2; simp only [maxLen] at this; omega, fun d => ?_, ?_⟩
            · intro e
              exact HFAR.out (by rw [HV.out]; exact e.symm)
            · exact conv_reads (hful.1.grow (below_drewN (Below.refl _ _) d))
            · have hsc := hS.out.cell j (by simp; omega)
              have e1 : ((List.range k).map (txt Z S) ++ List.replicate (k - k) ByteArray.empty).getD j ByteArray.empty = txt Z S j := by
                simp [List.getD, hj]
              rw [e1] at hsc
              refine HG2.out.cell hsc ?_
              intro e
              have := (HLk.out.own i hlt).lt wo.heap.size (by rw [HV.out]; exact e.symm)
              have h3 := (HW.out.own i hlt).lt wo.heap.size (by rw [HV.out]; exact e.symm)
              omega
          go_wp2_with fail
          go_loopw [6] (fun j wl => ∃ (m d : Nat), m ≤ k ∧ j = .int .i64 m ∧ wl = w2.drewN d) (fun j _ => k - (intOf j).toNat)
          case atStart => exact ⟨0, 0, by omega, rfl, rfl⟩
          case round =>
            obtain ⟨m, d, hm, rfl, rfl⟩ := hrel
            by_cases hmk : m < k
            · by_cases hmi : m = i
              · subst hmi
                go_wp2_with fail
                go_quiet (fail)
                go_wp2
                exact ⟨⟨m + 1, _, by omega, by go_num, rfl⟩, by simp [intOf]; omega⟩
              · obtain ⟨aj, lj, cj, q1, q2, q3, q4⟩ := HT.out m hmk hmi
                have hne : ((m : Int) != (i : Int)) = true := by rw [bne_iff_ne]; omega
                have m1 : (m : Int) < (k : Int) := by omega
                have m0 : (0 : Int) ≤ (m : Int) := by omega
                generalize txt Z S m = tx at *
                go_wp2_with fail
                go_quiet (fail)
                go_wp2
                exact ⟨⟨m + 1, _, by omega, by go_num, rfl⟩, by simp [intOf]; omega⟩
            · go_wp2_with fail
              refine (HPR.out (w2.drewN d) (fun _ _ => rfl)).mono ?_
              rintro e w3 ⟨rfl, hg3, hs3, hback⟩
              have hbel : Below w.heap.size w w3 := by
                have hg2 := HG2.out
                refine hb.trans ⟨?_, ?_, ?_, ?_, fun b hb' => ?_⟩
                · exact hg3.os.trans (hg2.os.trans hbk.os)
                · exact hg3.tape.trans (hg2.tape.trans hbk.tape)
                · exact hg3.output.trans (hg2.output.trans hbk.output)
                · have h1 := hg3.size
                  have h2 := hg2.size
                  have h3 := hbk.size
                  have h4 : (w2.drewN d).heap.size = w2.heap.size := rfl
                  omega
                · have hbo : b < wo.heap.size := Nat.lt_of_lt_of_le hb' hb.size
                  by_cases he : (Value.slice a l c).ownBlock = some b
                  · rw [hback b he]
                    exact hbk.block b hbo
                  · have h1 := hg3.block b (by show b < w2.heap.size; omega) (fun e => he e.symm)
                    have h2 := hg2.block b (by omega) (fun e => he e.symm)
                    have h3 : (w2.drewN d).heap[b]? = w2.heap[b]? := rfl
                    rw [h1, h3, h2]
                    exact hbk.block b hbo
              clear HPR HG2 hback hg3
              go_wp2
              exact ⟨⟨i + 1, by omega, by go_num, hbel⟩, by simp [intOf]; omega⟩
    · go_wp2
      go_ret
      exact ⟨rfl, hb⟩

theorem lists_apT (base : Nat) (w : World) (vs : List Value) (Zs Ss : List (List Int)) (n : Nat) (hv : vs.length = n) (hO : ∀ i, i < n → OwnT base w (vs.getD i undef) (Zs.getD i []) (Ss.getD i []))
    (hA : ∀ i k, i < n → k < n → i ≠ k → ∀ g, (vs.getD i undef).ownBlock = some g → (vs.getD k undef).ownBlock ≠ some g) : ListsT base w.heap.size 0 n (fun i => vs.getD i undef) (fun i => Zs.getD i []) (fun i => Ss.getD i []) (w.alloc (.cells vs.toArray 32)) where
  cell := fun i hi => by
    have hr : (w.alloc (.cells vs.toArray 32)).heap[w.heap.size]? = some (.cells vs.toArray 32 (0, 0)) := heap_alloc_new w _
    rw [cell_of_row _ _ _ _ _ _ hr]
    simp [List.getD, hv, hi]
  own := fun i hi => (hO i hi).grow (grow_alloc w _)
  apart := hA
  far := fun i hi e => by
    have := ((hO i hi).lt _ e).2
    omega

end Go.Proofs.YtbkolhhgajkjjaaGreatDoor

namespace Go.Proofs.YtbkolhhgajkjjaaGreatDoor
set_option maxRecDepth 20000
open Go.RowKit

theorem val7 {w : World} {g : Nat} {vp vf : Value} {room : Nat} {ss : List Sp} {fr : List Nat} (h : Rs w g vp vf room ss fr) (q : Int) : Reads w (sat ss q).val (sat ss q).bs := by
  have z : Reads w zs7.val zs7.bs := (Own.nil 0 w).reads
  unfold sat
  split
  · unfold spAt
    by_cases hi : (q - 1).toNat < ss.length
    · rw [List.getElem?_eq_getElem hi]
      obtain ⟨sp, ho⟩ := h.vals _ (List.getElem_mem hi)
      exact ho.reads
    · rw [List.getElem?_eq_none (by omega)]
      exact z
  · exact z

theorem has7_eq {cs : List (Nat × Ce)} {ss : List Sp} (R : Rel7 cs [] [] ss) (W : Wf cs []) (q : Int) : decide ((sat ss q).kind ≠ 0) = decide (0 < cot cs q) := by
  rw [(sat_is R W q).kind]
  by_cases hc : 0 < cot cs q
  · obtain ⟨i, _, h1, h2, h3⟩ := cot_in hc
    rw [decide_eq_true hc, h3]
    rcases W.kinds i h1 with e | e <;> rw [e] <;> rfl
  · rw [decide_eq_false hc, W.cat0 (by omega)]
    rfl

theorem two_lists {w : World} {u v : Value} {bs sp sp2 : List Int} (h1 : Own 0 w u bs sp) (h2 : Own 0 w v bs sp2) (hn : ∀ k, u.ownBlock = some k → v.ownBlock ≠ some k) : ListsT 0 w.heap.size 0 2 (fun i => [u, v].getD i undef) (fun i => [bs, bs].getD i []) (fun i => [sp, sp2].getD i []) (w.alloc (.cells #[u, v] 32)) := by
  refine lists_apT 0 w [u, v] _ _ 2 rfl ?_ ?_
  · intro i hi
    match i, hi with
    | 0, _ => exact h1.toT
    | 1, _ => exact h2.toT
  · intro i j hi hj hne g e1 e2
    match i, j, hi, hj with
    | 0, 0, _, _ => omega
    | 1, 1, _, _ => omega
    | 0, 1, _, _ => exact hn g e1 e2
    | 1, 0, _, _ => exact hn g e2 e1

theorem below_grow7 {w0 w w' : World} {v : Value} (hb : Below w0.heap.size w0 w) (hg : w.grownBy w' v.ownBlock) (h : ∀ k, v.ownBlock = some k → w0.heap.size ≤ k) : Below w0.heap.size w0 w' := by
  cases e : v.ownBlock with
  | none =>
    rw [e] at hg
    exact below_own0 hb hg
  | some k =>
    rw [e] at hg
    exact below_row hb hg (h k e)

set_option maxHeartbeats 8000000 in
theorem look7 {w : World} {g q : Nat} {vp vf : Value} {room : Nat} {cs : List (Nat × Ce)} {ss : List Sp} {fr : List Nat} (V : Vw w (.pointer (some ⟨g, 0, none⟩)) true (cot cs) (cat cs)) (s : Rs w q vp vf room ss fr) (R : Rel7 cs [] [] ss) (W : Wf cs []) (hL : Laid w) (h6 : cs.length ≤ 5000) (h : Int) (deep : Bool) (hd : deep = true → cs.length ≤ 60) : Calls Tryz.prog 33 #[.pointer (some ⟨g, 0, none⟩), .pointer (some ⟨q, 0, none⟩), .int .i64 h, .bool deep] w fun e w' => e = .returned (.bool true) ∧ Below w.heap.size w w' := by
  have hS := sat_is R W h
  have hle := V.le h
  have A1 : Hid (∀ w', Below w.heap.size w w' → Calls Tryz.prog 86 #[.pointer (some ⟨g, 0, none⟩), .int .i64 h] w' fun e w'' => e = .returned (.bool (decide (0 < cot cs h))) ∧ Below w'.heap.size w' w'') := fun w' hb => has_any (V.grow hb) h
  have B1 : Hid (∀ w', Below w.heap.size w w' → Calls Tryz.prog 71 #[.pointer (some ⟨q, 0, none⟩), .int .i64 h] w' fun e w'' => e = .returned (.bool (decide (0 < cot cs h))) ∧ Below w'.heap.size w' w'') := fun w' hb => by
    rw [← has7_eq R W h]
    exact (rhas7_any (s.grow hb) h).mono fun e w'' ⟨e1, e2⟩ => ⟨e1, by rw [e2]; exact Below.refl _ _⟩
  have A2 : Hid (∀ w', Below w.heap.size w w' → Calls Tryz.prog 87 #[.pointer (some ⟨g, 0, none⟩), .int .i64 h] w' fun e w'' => e = .returned (.int .u8 (cat cs h).kind) ∧ Below w'.heap.size w' w'') := fun w' hb => kind_any (V.grow hb) h
  have B2 : Hid (∀ w', Below w.heap.size w w' → Calls Tryz.prog 54 #[.pointer (some ⟨q, 0, none⟩), .int .i64 h] w' fun e w'' => e = .returned (.int .u8 (cat cs h).kind) ∧ Below w'.heap.size w' w'') := fun w' hb => by
    rw [← hS.kind]
    exact rkind7 (s.grow hb) h
  have A3 : Hid (∀ w', Below w.heap.size w w' → Calls Tryz.prog 88 #[.pointer (some ⟨g, 0, none⟩), .int .i64 h] w' fun e w'' => e = .returned (.int .i64 (vDp true (cat cs h))) ∧ Below w'.heap.size w' w'') := fun w' hb => depth_any (V.grow hb) h
  have B3 : Hid (∀ w', Below w.heap.size w w' → Calls Tryz.prog 89 #[.pointer (some ⟨q, 0, none⟩), .int .i64 h] w' fun e w'' => e = .returned (.int .i64 (vDp true (cat cs h))) ∧ Below w'.heap.size w' w'') := fun w' hb => by
    rw [show vDp true (cat cs h) = dp7 (sat ss h) by unfold vDp dp7; rw [hS.kind, hS.d]; rfl]
    exact rdepth7 (s.grow hb) h
  have A4 : Hid (∀ w', Below w.heap.size w w' → Calls Tryz.prog 90 #[.pointer (some ⟨g, 0, none⟩), .int .i64 h] w' fun e w'' => e = .returned (.int .i64 ((cat cs h).sz : Int)) ∧ Below w'.heap.size w' w'') := fun w' hb => size_any (V.grow hb) h
  have B4 : Hid (∀ w', Below w.heap.size w w' → Calls Tryz.prog 91 #[.pointer (some ⟨q, 0, none⟩), .int .i64 h] w' fun e w'' => e = .returned (.int .i64 ((cat cs h).sz : Int)) ∧ Below w'.heap.size w' w'') := fun w' hb => by
    exact rsize7 (s.grow hb) R W h6 h
  have A5 : Hid (∀ w', Below w.heap.size w w' → Calls Tryz.prog 92 #[.pointer (some ⟨g, 0, none⟩), .int .i64 h] w' fun e w'' => e = .returned (.int .i64 (cot cs h : Int)) ∧ Below w'.heap.size w' w'') := fun w' hb => (V.count w' h hb).mono fun e w'' ⟨e1, e2⟩ => ⟨e1, by rw [e2]; exact Below.refl _ _⟩
  have B5 : Hid (∀ w', Below w.heap.size w w' → Calls Tryz.prog 72 #[.pointer (some ⟨q, 0, none⟩), .int .i64 h] w' fun e w'' => e = .returned (.int .i64 (cot cs h : Int)) ∧ Below w'.heap.size w' w'') := fun w' hb => by
    have := rcount7 (s.grow hb) h (by rw [hS.sum]; exact hle.2)
    rwa [hS.sum] at this
  have A6 : Hid (∀ w', Below w.heap.size w w' → Calls Tryz.prog 81 #[.pointer (some ⟨g, 0, none⟩), .int .i64 h] w' fun e w'' => e = .returned (.int .i64 ((cot cs h - (cat cs h).ab : Nat) : Int)) ∧ Below w'.heap.size w' w'') := fun w' hb => held_any (V.grow hb) h
  have B6 : Hid (∀ w', Below w.heap.size w w' → Calls Tryz.prog 93 #[.pointer (some ⟨q, 0, none⟩), .int .i64 h] w' fun e w'' => e = .returned (.int .i64 ((cot cs h - (cat cs h).ab : Nat) : Int)) ∧ Below w'.heap.size w' w'') := fun w' hb => by
    rw [← hS.own]
    exact rheld7 (s.grow hb) h
  have A7 : Hid (∀ w', Below w.heap.size w w' → Calls Tryz.prog 94 #[.pointer (some ⟨g, 0, none⟩), .int .i64 h] w' fun e w'' => e = .returned (.int .i64 (vRt true (cot cs h) (cat cs h) h)) ∧ Below w'.heap.size w' w'') := fun w' hb => root_any (V.grow hb) h
  have B7 : Hid (∀ w', Below w.heap.size w w' → Calls Tryz.prog 95 #[.pointer (some ⟨q, 0, none⟩), .int .i64 h] w' fun e w'' => e = .returned (.int .i64 (vRt true (cot cs h) (cat cs h) h)) ∧ Below w'.heap.size w' w'') := fun w' hb => by
    exact rroot7 (s.grow hb) R W h
  have A8 : Hid (∀ w', Below w.heap.size w w' → Calls Tryz.prog 96 #[.pointer (some ⟨g, 0, none⟩), .int .i64 h] w' fun e w'' => e = .returned (.agg (B (cat cs h).key)) ∧ Below w'.heap.size w' w'') := fun w' hb => key_any (V.grow hb) h
  have B8 : Hid (∀ w', Below w.heap.size w w' → Calls Tryz.prog 97 #[.pointer (some ⟨q, 0, none⟩), .int .i64 h] w' fun e w'' => e = .returned (.agg (B (cat cs h).key)) ∧ Below w'.heap.size w' w'') := fun w' hb => by
    exact rkey7 (s.grow hb) R W h6 h
  have A9 : Hid (∀ w', Below w.heap.size w w' → Calls Tryz.prog 98 #[.pointer (some ⟨g, 0, none⟩), .int .i64 h] w' fun e w'' => e = .returned (.tuple #[.int .i64 ((cat cs h).l : Int), .int .i64 ((cat cs h).r : Int)]) ∧ Below w'.heap.size w' w'') := fun w' hb => sides_any (V.grow hb) h
  have B9 : Hid (∀ w', Below w.heap.size w w' → Calls Tryz.prog 99 #[.pointer (some ⟨q, 0, none⟩), .int .i64 h] w' fun e w'' => e = .returned (.tuple #[.int .i64 ((cat cs h).l : Int), .int .i64 ((cat cs h).r : Int)]) ∧ Below w'.heap.size w' w'') := fun w' hb => by
    rw [← hS.l, ← hS.r]
    exact rsides7 (s.grow hb) h
  have AV : Hid (∀ w', Below w.heap.size w w' → Calls Tryz.prog 100 #[.pointer (some ⟨g, 0, none⟩), .int .i64 h] w' fun e w'' => ∃ v sp, e = .returned v ∧ Own w'.heap.size w'' v (cat cs h).bs sp ∧ Below w'.heap.size w' w'') := fun w' hb => valueS_any (V.grow hb) h
  have BV : Hid (∀ w', Below w.heap.size w w' → Calls Tryz.prog 102 #[.pointer (some ⟨q, 0, none⟩), .int .i64 h] w' fun e w'' => e = .returned (sat ss h).val ∧ Below w'.heap.size w' w'') := fun w' hb => rvalue7 (s.grow hb) h
  have BR : Hid (∀ w', Below w.heap.size w w' → Reads w' (sat ss h).val (cat cs h).bs) := fun w' hb => by
    rw [← hS.bs]
    exact val7 (s.grow hb) h
  have A10 : Hid (∀ w', Below w.heap.size w w' → Calls Tryz.prog 104 #[.pointer (some ⟨g, 0, none⟩), .int .i64 h] w' fun e w'' => e = .returned (.agg (B (vDg true (cat cs) h))) ∧ Below w'.heap.size w' w'') := fun w' hb => sdig_any (V.grow hb) h (hL.grow hb)
  have B10 : Hid (deep = true → ∀ w', Below w.heap.size w w' → Calls Tryz.prog 105 #[.pointer (some ⟨q, 0, none⟩), .int .i64 h] w' fun e w'' => e = .returned (.agg (B (vDg true (cat cs) h))) ∧ Below w'.heap.size w' w'') := fun e w' hb => rdig7 (s.grow hb) R W (hd e) h
  have A11 : Hid (∀ w', Below w.heap.size w w' → Calls Tryz.prog 106 #[.pointer (some ⟨g, 0, none⟩), .int .i64 h] w' fun e w'' => e = .returned (.agg (B (vNd true (cat cs) h))) ∧ Below w'.heap.size w' w'') := fun w' hb => node_any (V.grow hb) h (hL.grow hb)
  have B11 : Hid (deep = true → ∀ w', Below w.heap.size w w' → Calls Tryz.prog 107 #[.pointer (some ⟨q, 0, none⟩), .int .i64 h] w' fun e w'' => e = .returned (.agg (B (vNd true (cat cs) h))) ∧ Below w'.heap.size w' w'') := fun e w' hb => rnode7 (s.grow hb) R W (hd e) h
  have hEK : ∀ w, (Op.equalIn 10000 31 (.agg (B (cat cs h).key)) (.agg (B (cat cs h).key))).run Tryz.prog w = .ok true w := fun w => by rw [path_eq _ _ (V.ok h).hk.1 (V.ok h).hk.1 w, decide_eq_true rfl]
  have hDl := (vDg_len V h).1
  have hED : ∀ w, (Op.equalIn 10000 62 (.agg (B (vDg true (cat cs) h))) (.agg (B (vDg true (cat cs) h)))).run Tryz.prog w = .ok true w := fun w => by rw [hash_eq _ _ hDl hDl w, decide_eq_true rfl]
  have hEN : ∀ w, (Op.equalIn 10000 136 (.agg (B (vNd true (cat cs) h))) (.agg (B (vNd true (cat cs) h)))).run Tryz.prog w = .ok true w := fun w => by
    obtain ⟨_, k, a, b, c, d, e, hn⟩ := vNd_ok V h
    rw [e]
    have := node_eq hn hn w
    simpa using this
  clear V s R W hL h6 hd hS hle hDl
  generalize B (vNd true (cat cs) h) = NN at A11 B11 hEN
  generalize B (vDg true (cat cs) h) = DD at A10 B10 hED
  generalize B (cat cs h).key = KK at A8 B8 hEK
  generalize (sat ss h).val = sv at BV BR
  generalize vRt true (cot cs h) (cat cs h) h = rt at A7 B7
  generalize vDp true (cat cs h) = dp at A3 B3
  generalize ((cot cs h - (cat cs h).ab : Nat) : Int) = hel at A6 B6
  generalize decide (0 < cot cs h) = has at A1 B1
  generalize (cot cs h : Int) = cou at A5 B5
  generalize ((cat cs h).sz : Int) = sz at A4 B4
  generalize (cat cs h).kind = kd at A2 B2
  generalize ((cat cs h).l : Int) = sl at A9 B9
  generalize ((cat cs h).r : Int) = sr at A9 B9
  generalize (cat cs h).bs = bs at AV BR
  generalize hx : Value.pointer (some ⟨g, 0, none⟩) = x at A1 A2 A3 A4 A5 A6 A7 A8 A9 AV A10 A11 ⊢
  generalize hy : Value.pointer (some ⟨q, 0, none⟩) = y at B1 B2 B3 B4 B5 B6 B7 B8 B9 BV B10 B11 ⊢
  clear hx hy
  have hB : Hid (Below w.heap.size w w) := Below.refl _ _
  cases deep with
  | false =>
    clear A10 B10 A11 B11 hED hEN
    cases has <;> (
    go_enter Tryz.func33, Tryz.ntmps33
    go_wp2_with (first
      | (go_at_call 86; refine (A1.out _ hB.out).mono ?_; rintro e w' ⟨rfl, b⟩; replace hB := hidden (grow_trans hB.out b); (try (replace hC := hidden (grow_trans hC.out b))); clear b)
      | (go_at_call 71; refine (B1.out _ hB.out).mono ?_; rintro e w' ⟨rfl, b⟩; replace hB := hidden (grow_trans hB.out b); (try (replace hC := hidden (grow_trans hC.out b))); clear b)
      | (go_at_call 87; refine (A2.out _ hB.out).mono ?_; rintro e w' ⟨rfl, b⟩; replace hB := hidden (grow_trans hB.out b); (try (replace hC := hidden (grow_trans hC.out b))); clear b)
      | (go_at_call 54; refine (B2.out _ hB.out).mono ?_; rintro e w' ⟨rfl, b⟩; replace hB := hidden (grow_trans hB.out b); (try (replace hC := hidden (grow_trans hC.out b))); clear b)
      | (go_at_call 88; refine (A3.out _ hB.out).mono ?_; rintro e w' ⟨rfl, b⟩; replace hB := hidden (grow_trans hB.out b); (try (replace hC := hidden (grow_trans hC.out b))); clear b)
      | (go_at_call 89; refine (B3.out _ hB.out).mono ?_; rintro e w' ⟨rfl, b⟩; replace hB := hidden (grow_trans hB.out b); (try (replace hC := hidden (grow_trans hC.out b))); clear b)
      | (go_at_call 90; refine (A4.out _ hB.out).mono ?_; rintro e w' ⟨rfl, b⟩; replace hB := hidden (grow_trans hB.out b); (try (replace hC := hidden (grow_trans hC.out b))); clear b)
      | (go_at_call 91; refine (B4.out _ hB.out).mono ?_; rintro e w' ⟨rfl, b⟩; replace hB := hidden (grow_trans hB.out b); (try (replace hC := hidden (grow_trans hC.out b))); clear b)
      | (go_at_call 92; refine (A5.out _ hB.out).mono ?_; rintro e w' ⟨rfl, b⟩; replace hB := hidden (grow_trans hB.out b); (try (replace hC := hidden (grow_trans hC.out b))); clear b)
      | (go_at_call 72; refine (B5.out _ hB.out).mono ?_; rintro e w' ⟨rfl, b⟩; replace hB := hidden (grow_trans hB.out b); (try (replace hC := hidden (grow_trans hC.out b))); clear b)
      | (go_at_call 81; refine (A6.out _ hB.out).mono ?_; rintro e w' ⟨rfl, b⟩; replace hB := hidden (grow_trans hB.out b); (try (replace hC := hidden (grow_trans hC.out b))); clear b)
      | (go_at_call 93; refine (B6.out _ hB.out).mono ?_; rintro e w' ⟨rfl, b⟩; replace hB := hidden (grow_trans hB.out b); (try (replace hC := hidden (grow_trans hC.out b))); clear b)
      | (go_at_call 94; refine (A7.out _ hB.out).mono ?_; rintro e w' ⟨rfl, b⟩; replace hB := hidden (grow_trans hB.out b); (try (replace hC := hidden (grow_trans hC.out b))); clear b)
      | (go_at_call 95; refine (B7.out _ hB.out).mono ?_; rintro e w' ⟨rfl, b⟩; replace hB := hidden (grow_trans hB.out b); (try (replace hC := hidden (grow_trans hC.out b))); clear b)
      | (go_at_call 96; refine (A8.out _ hB.out).mono ?_; rintro e w' ⟨rfl, b⟩; replace hB := hidden (grow_trans hB.out b); (try (replace hC := hidden (grow_trans hC.out b))); clear b)
      | (go_at_call 97; refine (B8.out _ hB.out).mono ?_; rintro e w' ⟨rfl, b⟩; replace hB := hidden (grow_trans hB.out b); (try (replace hC := hidden (grow_trans hC.out b))); clear b)
      | (go_at_call 98; refine (A9.out _ hB.out).mono ?_; rintro e w' ⟨rfl, b⟩; replace hB := hidden (grow_trans hB.out b); (try (replace hC := hidden (grow_trans hC.out b))); clear b)
      | (go_at_call 99; refine (B9.out _ hB.out).mono ?_; rintro e w' ⟨rfl, b⟩; replace hB := hidden (grow_trans hB.out b); (try (replace hC := hidden (grow_trans hC.out b))); clear b)
      | (go_at_call 100; refine (AV.out _ hB.out).mono ?_; first | (have HQ := HOV; rintro e w' ⟨v3, sp3, rfl, o3, b⟩; obtain ⟨a3, c3, rfl⟩ := o3.slice; have HU3 := hidden o3.reads; clear o3; replace hB := hidden (grow_trans hB.out b); (try (replace hC := hidden (grow_trans hC.out b))); clear b) | (have HQ := HU1; rintro e w2 ⟨v2, sp2, rfl, o2, b⟩; obtain ⟨a2, c2, rfl⟩ := o2.slice; have HU2 := hidden (o2.later (Nat.zero_le _)); have HNE : Hid (∀ k, (Value.slice a1 bs.length c1).ownBlock = some k → (Value.slice a2 bs.length c2).ownBlock ≠ some k) := (fun k e1 e2 => absurd (HU1.out.lt k e1).2 (by have := (o2.lt k e2).1; omega)); have HUA := hidden ((HU1.out.grow b).later (Nat.zero_le _)); have HB1 : Hid (∀ k, (Value.slice a1 bs.length c1).ownBlock = some k → w.heap.size ≤ k) := (fun k e1 => Nat.le_trans HSZ.out (HU1.out.lt k e1).1); have hC := hidden (Below.refl w2.heap.size w2); replace hB := hidden (grow_trans hB.out b); clear o2 b) | (have HSZ := hidden hB.out.size; rintro e w1 ⟨v1, sp1, rfl, o1, b⟩; obtain ⟨a1, c1, rfl⟩ := o1.slice; have HU1 := hidden o1; clear o1; replace hB := hidden (grow_trans hB.out b); clear b))
      | (go_at_call 102; refine (BV.out _ hB.out).mono ?_; rintro e w' ⟨rfl, b⟩; first | (have HQ := HU3; replace HU3 := hidden (HU3.out.grow b); replace hB := hidden (grow_trans hB.out b); clear HQ b) | (replace hB := hidden (grow_trans hB.out b); (try (replace hC := hidden (grow_trans hC.out b))); clear b))
      | (go_at_call 101; first | (refine (same_any _ _ bs bs _ HU3.out (BR.out _ hB.out)).mono ?_; rintro e w' ⟨rfl, hx⟩; rw [hx]; clear hx w') | (refine (same_any _ _ bs bs _ (HUA.out.grow hC.out).reads (BR.out _ hB.out)).mono ?_; rintro e w' ⟨rfl, hx⟩; rw [hx]; clear hx w'))
      | (go_at_call 103; refine (apart_walkT 0 _ 0 2 2 _ _ _ _ (by omega) (two_lists (HUA.out.grow hC.out) (HU2.out.grow hC.out) HNE.out) (Nat.le_refl _)).mono ?_; rintro e w' ⟨rfl, b0⟩; have b := grow_trans (grow_alloc _ _) b0; clear b0; replace hB := hidden (grow_trans hB.out b); (try (replace hC := hidden (grow_trans hC.out b))); clear b)
      | (go_at_call 26; refine (over_own 0 _ bs _ _ (HUA.out.grow hC.out)).mono ?_; rintro e w' ⟨rfl, -, g4, -⟩; have HOV := hidden g4; replace hB := hidden (below_grow7 hB.out g4 HB1.out); clear g4))
    go_ret
    exact ⟨rfl, hB.out⟩)
  | true =>
    have B12 := hidden (B10.out rfl)
    have B13 := hidden (B11.out rfl)
    clear B10 B11
    cases has <;> (
    go_enter Tryz.func33, Tryz.ntmps33
    go_wp2_with (first
      | (go_at_call 86; refine (A1.out _ hB.out).mono ?_; rintro e w' ⟨rfl, b⟩; replace hB := hidden (grow_trans hB.out b); (try (replace hC := hidden (grow_trans hC.out b))); clear b)
      | (go_at_call 71; refine (B1.out _ hB.out).mono ?_; rintro e w' ⟨rfl, b⟩; replace hB := hidden (grow_trans hB.out b); (try (replace hC := hidden (grow_trans hC.out b))); clear b)
      | (go_at_call 87; refine (A2.out _ hB.out).mono ?_; rintro e w' ⟨rfl, b⟩; replace hB := hidden (grow_trans hB.out b); (try (replace hC := hidden (grow_trans hC.out b))); clear b)
      | (go_at_call 54; refine (B2.out _ hB.out).mono ?_; rintro e w' ⟨rfl, b⟩; replace hB := hidden (grow_trans hB.out b); (try (replace hC := hidden (grow_trans hC.out b))); clear b)
      | (go_at_call 88; refine (A3.out _ hB.out).mono ?_; rintro e w' ⟨rfl, b⟩; replace hB := hidden (grow_trans hB.out b); (try (replace hC := hidden (grow_trans hC.out b))); clear b)
      | (go_at_call 89; refine (B3.out _ hB.out).mono ?_; rintro e w' ⟨rfl, b⟩; replace hB := hidden (grow_trans hB.out b); (try (replace hC := hidden (grow_trans hC.out b))); clear b)
      | (go_at_call 90; refine (A4.out _ hB.out).mono ?_; rintro e w' ⟨rfl, b⟩; replace hB := hidden (grow_trans hB.out b); (try (replace hC := hidden (grow_trans hC.out b))); clear b)
      | (go_at_call 91; refine (B4.out _ hB.out).mono ?_; rintro e w' ⟨rfl, b⟩; replace hB := hidden (grow_trans hB.out b); (try (replace hC := hidden (grow_trans hC.out b))); clear b)
      | (go_at_call 92; refine (A5.out _ hB.out).mono ?_; rintro e w' ⟨rfl, b⟩; replace hB := hidden (grow_trans hB.out b); (try (replace hC := hidden (grow_trans hC.out b))); clear b)
      | (go_at_call 72; refine (B5.out _ hB.out).mono ?_; rintro e w' ⟨rfl, b⟩; replace hB := hidden (grow_trans hB.out b); (try (replace hC := hidden (grow_trans hC.out b))); clear b)
      | (go_at_call 81; refine (A6.out _ hB.out).mono ?_; rintro e w' ⟨rfl, b⟩; replace hB := hidden (grow_trans hB.out b); (try (replace hC := hidden (grow_trans hC.out b))); clear b)
      | (go_at_call 93; refine (B6.out _ hB.out).mono ?_; rintro e w' ⟨rfl, b⟩; replace hB := hidden (grow_trans hB.out b); (try (replace hC := hidden (grow_trans hC.out b))); clear b)
      | (go_at_call 94; refine (A7.out _ hB.out).mono ?_; rintro e w' ⟨rfl, b⟩; replace hB := hidden (grow_trans hB.out b); (try (replace hC := hidden (grow_trans hC.out b))); clear b)
      | (go_at_call 95; refine (B7.out _ hB.out).mono ?_; rintro e w' ⟨rfl, b⟩; replace hB := hidden (grow_trans hB.out b); (try (replace hC := hidden (grow_trans hC.out b))); clear b)
      | (go_at_call 96; refine (A8.out _ hB.out).mono ?_; rintro e w' ⟨rfl, b⟩; replace hB := hidden (grow_trans hB.out b); (try (replace hC := hidden (grow_trans hC.out b))); clear b)
      | (go_at_call 97; refine (B8.out _ hB.out).mono ?_; rintro e w' ⟨rfl, b⟩; replace hB := hidden (grow_trans hB.out b); (try (replace hC := hidden (grow_trans hC.out b))); clear b)
      | (go_at_call 98; refine (A9.out _ hB.out).mono ?_; rintro e w' ⟨rfl, b⟩; replace hB := hidden (grow_trans hB.out b); (try (replace hC := hidden (grow_trans hC.out b))); clear b)
      | (go_at_call 99; refine (B9.out _ hB.out).mono ?_; rintro e w' ⟨rfl, b⟩; replace hB := hidden (grow_trans hB.out b); (try (replace hC := hidden (grow_trans hC.out b))); clear b)
      | (go_at_call 100; refine (AV.out _ hB.out).mono ?_; first | (have HQ := HOV; rintro e w' ⟨v3, sp3, rfl, o3, b⟩; obtain ⟨a3, c3, rfl⟩ := o3.slice; have HU3 := hidden o3.reads; clear o3; replace hB := hidden (grow_trans hB.out b); (try (replace hC := hidden (grow_trans hC.out b))); clear b) | (have HQ := HU1; rintro e w2 ⟨v2, sp2, rfl, o2, b⟩; obtain ⟨a2, c2, rfl⟩ := o2.slice; have HU2 := hidden (o2.later (Nat.zero_le _)); have HNE : Hid (∀ k, (Value.slice a1 bs.length c1).ownBlock = some k → (Value.slice a2 bs.length c2).ownBlock ≠ some k) := (fun k e1 e2 => absurd (HU1.out.lt k e1).2 (by have := (o2.lt k e2).1; omega)); have HUA := hidden ((HU1.out.grow b).later (Nat.zero_le _)); have HB1 : Hid (∀ k, (Value.slice a1 bs.length c1).ownBlock = some k → w.heap.size ≤ k) := (fun k e1 => Nat.le_trans HSZ.out (HU1.out.lt k e1).1); have hC := hidden (Below.refl w2.heap.size w2); replace hB := hidden (grow_trans hB.out b); clear o2 b) | (have HSZ := hidden hB.out.size; rintro e w1 ⟨v1, sp1, rfl, o1, b⟩; obtain ⟨a1, c1, rfl⟩ := o1.slice; have HU1 := hidden o1; clear o1; replace hB := hidden (grow_trans hB.out b); clear b))
      | (go_at_call 102; refine (BV.out _ hB.out).mono ?_; rintro e w' ⟨rfl, b⟩; first | (have HQ := HU3; replace HU3 := hidden (HU3.out.grow b); replace hB := hidden (grow_trans hB.out b); clear HQ b) | (replace hB := hidden (grow_trans hB.out b); (try (replace hC := hidden (grow_trans hC.out b))); clear b))
      | (go_at_call 101; first | (refine (same_any _ _ bs bs _ HU3.out (BR.out _ hB.out)).mono ?_; rintro e w' ⟨rfl, hx⟩; rw [hx]; clear hx w') | (refine (same_any _ _ bs bs _ (HUA.out.grow hC.out).reads (BR.out _ hB.out)).mono ?_; rintro e w' ⟨rfl, hx⟩; rw [hx]; clear hx w'))
      | (go_at_call 103; refine (apart_walkT 0 _ 0 2 2 _ _ _ _ (by omega) (two_lists (HUA.out.grow hC.out) (HU2.out.grow hC.out) HNE.out) (Nat.le_refl _)).mono ?_; rintro e w' ⟨rfl, b0⟩; have b := grow_trans (grow_alloc _ _) b0; clear b0; replace hB := hidden (grow_trans hB.out b); (try (replace hC := hidden (grow_trans hC.out b))); clear b)
      | (go_at_call 26; refine (over_own 0 _ bs _ _ (HUA.out.grow hC.out)).mono ?_; rintro e w' ⟨rfl, -, g4, -⟩; have HOV := hidden g4; replace hB := hidden (below_grow7 hB.out g4 HB1.out); clear g4)
      | (go_at_call 104; refine (A10.out _ hB.out).mono ?_; rintro e w' ⟨rfl, b⟩; replace hB := hidden (grow_trans hB.out b); clear b)
      | (go_at_call 105; refine (B12.out _ hB.out).mono ?_; rintro e w' ⟨rfl, b⟩; replace hB := hidden (grow_trans hB.out b); clear b)
      | (go_at_call 106; refine (A11.out _ hB.out).mono ?_; rintro e w' ⟨rfl, b⟩; replace hB := hidden (grow_trans hB.out b); clear b)
      | (go_at_call 107; refine (B13.out _ hB.out).mono ?_; rintro e w' ⟨rfl, b⟩; replace hB := hidden (grow_trans hB.out b); clear b))
    go_ret
    exact ⟨rfl, hB.out⟩)

end Go.Proofs.YtbkolhhgajkjjaaGreatDoor
