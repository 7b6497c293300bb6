/- Slices of the call's own over a block of bytes of any type (a key that was boxed, too), and OverBytes over them. -/
import Derived.Test.YtagkmfgoahbclaaBo36
import Derived.Test.YtagkmfgoahbclaaBo04
import Derived.Test.YtagkmfgoahbclaaBo34
import Derived.Test.YtagkmfgoahbclaaBo35
namespace Go.Proofs.Ytagkmfgoahbclaa
set_option maxRecDepth 20000
open Go.RowKit

theorem Blk.bput {w : World} {g : Nat} {t : TypeId} {zs : List Int} (h : Blk w g t (B zs)) (i : Nat) (z : Int) : Blk (w.setCell ⟨g, i, none⟩ (.int .u8 z)) g t (B (zs.set i z)) := by
  have := h.set i (.int .u8 z)
  rw [B_set] at this
  exact this

/-- A slice of the call's own, from block 'base' on: the bytes zs, behind them the room sp; the block is of any type. -/
def OwnT (base : Nat) (w : World) (v : Value) (zs sp : List Int) : Prop :=
  Bytes zs ∧ Bytes sp ∧ zs.length + sp.length ≤ maxLen ∧
  ((v = .slice none 0 0 ∧ zs = [] ∧ sp = []) ∨ ∃ g t rest, base ≤ g ∧ v = .slice (some ⟨g, 0, none⟩) zs.length (zs.length + sp.length) ∧ Blk w g t (B (zs ++ sp ++ rest)))

theorem Own.toT {base : Nat} {w : World} {v : Value} {zs sp : List Int} (h : Own base w v zs sp) : OwnT base w v zs sp := by
  obtain ⟨h1, h2, h3, h4⟩ := h
  refine ⟨h1, h2, h3, ?_⟩
  rcases h4 with h4 | ⟨g, rest, hg, h5, h6⟩
  · exact .inl h4
  · exact .inr ⟨g, _, rest, hg, h5, h6⟩

theorem OwnT.slice {b : Nat} {w : World} {v : Value} {zs sp : List Int} (h : OwnT b w v zs sp) : ∃ a c, v = .slice a zs.length c := by
  obtain ⟨_, _, _, h4⟩ := h
  rcases h4 with ⟨rfl, rfl, rfl⟩ | ⟨g, t, rest, hg, rfl, h5⟩
  · exact ⟨_, _, rfl⟩
  · exact ⟨_, _, rfl⟩

theorem OwnT.mono {b b' : Nat} {w : World} {v : Value} {zs sp : List Int} (h : OwnT b w v zs sp) (hb : b' ≤ b) : OwnT b' w v zs sp := by
  obtain ⟨h1, h2, h3, h4⟩ := h
  refine ⟨h1, h2, h3, ?_⟩
  rcases h4 with h4 | ⟨g, t, rest, hg, h5⟩
  · exact .inl h4
  · exact .inr ⟨g, t, rest, Nat.le_trans hb hg, h5⟩

theorem OwnT.of_block {b : Nat} {w w' : World} {v : Value} {zs sp : List Int} (h : OwnT b w v zs sp) (hw : ∀ k, v.ownBlock = some k → w'.heap[k]? = w.heap[k]?) : OwnT b w' v zs sp := by
  obtain ⟨h1, h2, h3, h4⟩ := h
  refine ⟨h1, h2, h3, ?_⟩
  rcases h4 with h4 | ⟨g, t, rest, hg, rfl, h5⟩
  · exact .inl h4
  · exact .inr ⟨g, t, rest, hg, rfl, h5.of_block (hw g rfl)⟩

theorem OwnT.lt {b : Nat} {w : World} {v : Value} {zs sp : List Int} (h : OwnT b w v zs sp) : ∀ k, v.ownBlock = some k → b ≤ k ∧ k < w.heap.size := by
  obtain ⟨h1, h2, h3, h4⟩ := h
  intro k hk
  rcases h4 with ⟨rfl, _⟩ | ⟨g, t, rest, hg, rfl, h5⟩
  · simp [Value.ownBlock] at hk
  · simp only [Value.ownBlock, Option.some.injEq] at hk
    subst hk
    exact ⟨hg, h5.lt⟩

theorem OwnT.grow {b : Nat} {w w' : World} {v : Value} {zs sp : List Int} (h : OwnT b w v zs sp) (hb : Below w.heap.size w w') : OwnT b w' v zs sp := h.of_block fun k hk => hb.block k (h.lt k hk).2

set_option maxHeartbeats 400000 in
theorem over_rowT (g n : Nat) (t : TypeId) (zs rest : List Int) (w : World) (h : Blk w g t (B (zs ++ rest))) (hl : zs.length ≤ maxLen) :
    Calls Try.prog 23 #[.slice (some ⟨g, 0, none⟩) n zs.length] w fun e w' => e = .returned (.tuple #[]) ∧ Blk w' g t (B (zs.map x5 ++ rest)) ∧ w.grownBy w' (some g) ∧ w'.heap.size = w.heap.size := by
  unfold maxLen at hl
  have HR : Hid (Blk w g t (B (((zs.take 0).map x5 ++ zs.drop 0) ++ rest))) := by
    show Blk _ _ _ _
    simpa using h
  clear h
  go_enter Try.func23, Try.ntmps23
  go_wp2_with fail
  go_loopw [3] (fun i wr => ∃ k : Nat, k ≤ zs.length ∧ i = .int .i64 k ∧ Hid (Blk wr g t (B (((zs.take k).map x5 ++ zs.drop k) ++ rest))) ∧ w.grownBy wr (some g) ∧ wr.heap.size = w.heap.size) (fun i _ => zs.length - (intOf i).toNat)
  case atStart => exact ⟨0, by omega, by simp, HR, World.grownBy.refl _ _, rfl⟩
  case round =>
    obtain ⟨k, hk, rfl, hr, hb, hs⟩ := hrel
    by_cases hlt : k < zs.length
    · have hL : ((zs.take k).map x5 ++ zs.drop k).length = zs.length := by simp; omega
      have hc := hr.out.bcell k (by rw [List.length_append]; omega)
      rw [show (((zs.take k).map x5 ++ zs.drop k) ++ rest).getD k 0 = ((zs.take k).map x5 ++ zs.drop k).getD k 0 by simp only [List.getD]; rw [List.getElem?_append_left (by omega)], over_get zs k hlt] at hc
      have hf := hr.out.frozen k
      have this := hr.out.bput k (x5 (zs.getD k 0))
      rw [List.set_append_left _ _ (by omega), over_round zs k hlt] at this
      generalize zs.getD k 0 = z at hc this
      have HT := hidden this
      clear this hL
      go_wp2
      refine ⟨⟨k + 1, by omega, by go_num, ?_, grown_trans hb (grown_setCell _ _ _ _), by simpa using hs⟩, by simp [intOf]; omega⟩
      exact HT
    · go_wp2
      go_end0
      refine ⟨rfl, ?_, hb, hs⟩
      have := hr.out
      rw [List.take_of_length_le (by omega), List.drop_of_length_le (by omega), List.append_nil] at this
      exact this

/-- Of a slice of the call's own, its room with it. -/
theorem OwnT.full {b : Nat} {w : World} {a : Option Addr} {l c : Nat} {zs sp : List Int} (h : OwnT b w (.slice a l c) zs sp) : Reads w (.slice a c c) (zs ++ sp) ∧ c = zs.length + sp.length ∧ l = zs.length ∧ c ≤ maxLen := by
  obtain ⟨h1, h2, h3, h4⟩ := h
  rcases h4 with ⟨e, rfl, rfl⟩ | ⟨g, t, rest, hg, e, h5⟩
  · injection e with e1 e2 e3
    subst e1; subst e2; subst e3
    exact ⟨Reads.nil _, rfl, rfl, by simp [maxLen]⟩
  · injection e with e1 e2 e3
    subst e1; subst e2; subst e3
    refine ⟨⟨_, _, by rw [List.length_append], by simp, fun h => by simp at h, h1.append h2, fun _ => ⟨g, 0, rfl, fun i hi => ?_⟩⟩, rfl, rfl, h3⟩
    rw [Nat.zero_add, h5.bcell i (by simp at hi ⊢; omega)]
    simp only [List.getD]
    rw [List.getElem?_append_left hi]

/-- OverBytes, and OverBytes once more: as it was. -/
theorem over_pairT (base : Nat) (v : Value) (zs sp : List Int) (w : World) (h : OwnT base w v zs sp) :
    Calls Try.prog 23 #[v] w fun e w1 => e = .returned (.tuple #[]) ∧ w.grownBy w1 v.ownBlock ∧ w1.heap.size = w.heap.size ∧
      ∀ w2, (∀ k, v.ownBlock = some k → w2.heap[k]? = w1.heap[k]?) → Calls Try.prog 23 #[v] w2 fun e w3 => e = .returned (.tuple #[]) ∧ w2.grownBy w3 v.ownBlock ∧ w3.heap.size = w2.heap.size ∧ ∀ k, v.ownBlock = some k → w3.heap[k]? = w.heap[k]? := by
  obtain ⟨h1, h2, h3, h4⟩ := h
  rcases h4 with ⟨rfl, rfl, rfl⟩ | ⟨g, t, rest, hg, rfl, hr⟩
  · refine (over_nil w).mono ?_
    rintro e w' ⟨rfl, rfl⟩
    refine ⟨rfl, World.grownBy.refl _ _, rfl, fun w2 _ => ?_⟩
    refine (over_nil w2).mono ?_
    rintro e w3 ⟨rfl, rfl⟩
    exact ⟨rfl, World.grownBy.refl _ _, rfl, fun k hk => by simp [Value.ownBlock] at hk⟩
  · have := over_rowT g zs.length t (zs ++ sp) rest w hr (by simpa using h3)
    rw [List.length_append] at this
    refine this.mono ?_
    rintro e w1 ⟨rfl, hr1, hg1, hs1⟩
    refine ⟨rfl, hg1, hs1, fun w2 hw2 => ?_⟩
    have hr2 : Blk w2 g t (B ((zs ++ sp).map x5 ++ rest)) := hr1.of_block (hw2 g rfl)
    have this2 := over_rowT g zs.length t ((zs ++ sp).map x5) rest w2 hr2 (by simpa using h3)
    rw [List.length_map, List.length_append] at this2
    refine this2.mono ?_
    rintro e w3 ⟨rfl, hr3, hg3, hs3⟩
    refine ⟨rfl, hg3, hs3, fun k hk => ?_⟩
    simp only [Value.ownBlock, Option.some.injEq] at hk
    subst hk
    rw [map_x5 (h1.append h2)] at hr3
    unfold Blk at hr hr3
    rw [hr, hr3]

/-- The lists that are held against each other. -/
structure ListsT (base gl off n : Nat) (V : Nat → Value) (Z S : Nat → List Int) (w : World) : Prop where
  cell : ∀ i, i < n → w.cell? ⟨gl, off + i, none⟩ = some (V i)
  own : ∀ i, i < n → OwnT base w (V i) (Z i) (S i)
  apart : ∀ i k, i < n → k < n → i ≠ k → ∀ g, (V i).ownBlock = some g → (V k).ownBlock ≠ some g
  far : ∀ i, i < n → (V i).ownBlock ≠ some gl

theorem ListsT.of_block {base gl off n : Nat} {V : Nat → Value} {Z S : Nat → List Int} {w w' : World} (h : ListsT base gl off n V Z S w) (hw : ∀ k, k < w.heap.size → w'.heap[k]? = w.heap[k]?) : ListsT base gl off n V Z S w' where
  cell := fun i hi => by
    have := h.cell i hi
    have hlt := block_lt_of_cell this
    rw [World.cell?_of_block (w := w) (hw _ hlt)]
    exact this
  own := fun i hi => (h.own i hi).of_block fun k hk => hw k ((h.own i hi).lt k hk).2
  apart := h.apart
  far := h.far

set_option maxRecDepth 100000 in
set_option maxHeartbeats 4000000 in
theorem apart_walkT (base gl off n cap : Nat) (V : Nat → Value) (Z S : Nat → List Int) (w : World) (hn : n ≤ 17592186044416) (h : ListsT base gl off n V Z S w) (hcap : n ≤ cap) :
    Calls Try.prog 16 #[.slice (some ⟨gl, off, none⟩) n cap] w fun e w' => e = .returned (.bool true) ∧ Below w.heap.size w w' := by
  have H := hidden h
  clear h
  go_enter Try.func16, Try.ntmps16
  go_wp2_with fail
  go_loopw [3] (fun i wr => ∃ k : Nat, k ≤ n ∧ i = .int .i64 k ∧ Below w.heap.size w wr) (fun i _ => n - (intOf i).toNat)
  case atStart => exact ⟨0, by omega, rfl, Below.refl _ _⟩
  case round =>
    obtain ⟨i, hi, rfl, hb⟩ := hrel
    obtain ⟨wo, rfl⟩ : ∃ x, x = wr := ⟨_, rfl⟩
    by_cases hlt : i < n
    · have HW := hidden (H.out.of_block (w' := wo) (fun k hk => hb.block k hk))
      go_wp2_with (at_make; refine wpList_mks _ rfl _ _ rfl _ _ _ _ n rfl rfl rfl rfl hn ?_; intro w1 hr1 hb1 hs1)
      have HR1 : Hid (SRow w1 wo.heap.size ((List.range 0).map (txt Z S) ++ List.replicate (n - 0) ByteArray.empty)) := by
        show SRow _ _ _
        simpa using hr1
      clear hr1
      go_loopw [5] (fun j wk => ∃ k : Nat, k ≤ n ∧ j = .int .i64 k ∧ Hid (SRow wk wo.heap.size ((List.range k).map (txt Z S) ++ List.replicate (n - k) ByteArray.empty)) ∧ Below wo.heap.size wo wk ∧ wk.heap.size = wo.heap.size + 1) (fun j _ => n - (intOf j).toNat)
      case atStart => exact ⟨0, by omega, rfl, HR1, hb1, hs1⟩
      case round =>
        obtain ⟨k, hk, rfl, hS, hbk, hsk⟩ := hrel
        obtain ⟨wk, rfl⟩ : ∃ x, x = wr := ⟨_, rfl⟩
        by_cases hkn : k < n
        · obtain ⟨a, c, hv⟩ := (HW.out.own k hkn).slice
          have hcell := HW.out.cell k hkn
          have hown := HW.out.own k hkn
          rw [hv] at hcell hown
          have hful := hown.full
          generalize (Z k).length = l at *
          have HC : Hid (∀ w', Below wo.heap.size wo w' → w'.cell? ⟨gl, off + k, none⟩ = some (.slice a l c) ∧ (convert 35 9 (.slice a c c)).run Try.prog w' = .ok (.string (txt Z S k)) w') :=
            fun w' hw' => ⟨(hw'.cell (p := ⟨gl, off + k, none⟩) (block_lt_of_cell hcell)).trans hcell, conv_reads (hful.1.grow hw')⟩
          have hcm : c ≤ 9223372036854775807 := by have := hful.2.2.2; simp only [maxLen] at this; omega
          have hsc := hS.out.cell k (by simp; omega)
          have hsf := hS.out.frozen k
          have kk : (k : Int) < (n : Int) := by omega
          have k0 : (0 : Int) ≤ (k : Int) := by omega
          have HTS : Hid (SRow (wk.setCell ⟨wo.heap.size, k, none⟩ (.string (txt Z S k))) wo.heap.size ((List.range (k + 1)).map (txt Z S) ++ List.replicate (n - (k + 1)) ByteArray.empty)) := by
            have := hS.out.set k (txt Z S k)
            rw [txts_set Z S n k hkn] at this
            exact this
          generalize txt Z S k = tx at *
          generalize ((List.range k).map (txt Z S) ++ List.replicate (n - k) ByteArray.empty).getD k ByteArray.empty = old at *
          have hbd := hbk.drew
          have hbs : Below wo.heap.size wo ((wk.setCell ⟨wo.heap.size, k, none⟩ (.string tx)).drew) := (hbk.setCell (Nat.le_refl _) _).drew
          clear hown hful hcell
          go_wp2_with fail
          go_region_held2 (fun w' => w'.cell? ⟨gl, off + k, none⟩ = some (.slice a l c) ∧ (convert 35 9 (.slice a c c)).run Try.prog w' = .ok (.string tx) w')
            (first | exact HC.out _ hbd | exact HC.out _ hbs)
            (fail)
          go_wp2
          exact ⟨⟨k + 1, by omega, by go_num, HTS, hbs, by simpa using hsk⟩, by simp [intOf]; omega⟩
        · have hke : k = n := by omega
          subst hke
          have HLk := hidden (HW.out.of_block (w' := wk) (fun j hj => hbk.block j hj))
          obtain ⟨a, c, hv⟩ := (HW.out.own i hlt).slice
          have hci := HLk.out.cell i hlt
          rw [hv] at hci
          have hgl : gl < wo.heap.size := block_lt_of_cell (HW.out.cell i hlt)
          have HOV := hidden (over_pairT base (V i) (Z i) (S i) wk (HLk.out.own i hlt))
          have hfar := HW.out.far i hlt
          have HFAR := hidden hfar
          have HV := hidden hv
          have ki : (i : Int) < (k : Int) := by omega
          have i0 : (0 : Int) ≤ (i : Int) := by omega
          rw [hv] at HOV
          generalize (Z i).length = l at *
          clear hv hfar
          go_wp2_with (go_at_call 23; refine HOV.out.mono ?_; rintro e w2 ⟨rfl, hg2, hs2, hpair⟩)
          have HPR := hidden hpair
          have HG2 := hidden hg2
          clear hpair hg2
          -- what holds behind the first writing over
          have hci2 : w2.cell? ⟨gl, off + i, none⟩ = some (.slice a l c) := by
            refine HG2.out.cell hci ?_
            intro e
            exact HFAR.out (by rw [HV.out]; exact e.symm)
          have HT : Hid (∀ j, j < k → j ≠ i → ∃ aj lj cj, w2.cell? ⟨gl, off + j, none⟩ = some (.slice aj lj cj) ∧ cj ≤ 9223372036854775807 ∧ (∀ d, (convert 35 9 (.slice aj cj cj)).run Try.prog (w2.drewN d) = .ok (.string (txt Z S j)) (w2.drewN d)) ∧ w2.cell? ⟨wo.heap.size, j, none⟩ = some (.string (txt Z S j))) := by
            intro j hj hji
            obtain ⟨aj, cj, hvj⟩ := (HW.out.own j hj).slice
            have hcj := HLk.out.cell j hj
            have hoj := HLk.out.own j hj
            have hne : (V j).ownBlock ≠ (Value.slice a l c).ownBlock ∨ (V j).ownBlock = none := by
              cases hb : (V j).ownBlock with
              | none => exact .inr rfl
              | some g =>
                refine .inl (fun e => ?_)
                exact HW.out.apart j i hj hlt hji g hb (by rw [HV.out]; exact e.symm)
            have hoj2 : OwnT base w2 (V j) (Z j) (S j) := by
              refine hoj.of_block (fun g hg => HG2.out.block g (hoj.lt g hg).2 ?_)
              rcases hne with h | h
              · rw [← hg]; exact h
              · rw [h] at hg; cases hg
            rw [hvj] at hcj hoj2
            have hful := hoj2.full
            refine ⟨aj, _, cj, HG2.out.cell hcj ?_, by have := hful.2.2.2; simp only [maxLen] at this; omega, fun d => ?_, ?_⟩
            · intro e
              exact HFAR.out (by rw [HV.out]; exact e.symm)
            · exact conv_reads (hful.1.grow (below_drewN (Below.refl _ _) d))
            · have hsc := hS.out.cell j (by simp; omega)
              have e1 : ((List.range k).map (txt Z S) ++ List.replicate (k - k) ByteArray.empty).getD j ByteArray.empty = txt Z S j := by
                simp [List.getD, hj]
              rw [e1] at hsc
              refine HG2.out.cell hsc ?_
              intro e
              have := (HLk.out.own i hlt).lt wo.heap.size (by rw [HV.out]; exact e.symm)
              have h3 := (HW.out.own i hlt).lt wo.heap.size (by rw [HV.out]; exact e.symm)
              omega
          go_wp2_with fail
          go_loopw [6] (fun j wl => ∃ (m d : Nat), m ≤ k ∧ j = .int .i64 m ∧ wl = w2.drewN d) (fun j _ => k - (intOf j).toNat)
          case atStart => exact ⟨0, 0, by omega, rfl, rfl⟩
          case round =>
            obtain ⟨m, d, hm, rfl, rfl⟩ := hrel
            by_cases hmk : m < k
            · by_cases hmi : m = i
              · subst hmi
                go_wp2_with fail
                go_quiet (fail)
                go_wp2
                exact ⟨⟨m + 1, _, by omega, by go_num, rfl⟩, by simp [intOf]; omega⟩
              · obtain ⟨aj, lj, cj, q1, q2, q3, q4⟩ := HT.out m hmk hmi
                have hne : ((m : Int) != (i : Int)) = true := by rw [bne_iff_ne]; omega
                have m1 : (m : Int) < (k : Int) := by omega
                have m0 : (0 : Int) ≤ (m : Int) := by omega
                generalize txt Z S m = tx at *
                go_wp2_with fail
                go_quiet (fail)
                go_wp2
                exact ⟨⟨m + 1, _, by omega, by go_num, rfl⟩, by simp [intOf]; omega⟩
            · go_wp2_with fail
              refine (HPR.out (w2.drewN d) (fun _ _ => rfl)).mono ?_
              rintro e w3 ⟨rfl, hg3, hs3, hback⟩
              have hbel : Below w.heap.size w w3 := by
                have hg2 := HG2.out
                refine hb.trans ⟨?_, ?_, ?_, ?_, fun b hb' => ?_⟩
                · exact hg3.os.trans (hg2.os.trans hbk.os)
                · exact hg3.tape.trans (hg2.tape.trans hbk.tape)
                · exact hg3.output.trans (hg2.output.trans hbk.output)
                · have h1 := hg3.size
                  have h2 := hg2.size
                  have h3 := hbk.size
                  have h4 : (w2.drewN d).heap.size = w2.heap.size := rfl
                  omega
                · have hbo : b < wo.heap.size := Nat.lt_of_lt_of_le hb' hb.size
                  by_cases he : (Value.slice a l c).ownBlock = some b
                  · rw [hback b he]
                    exact hbk.block b hbo
                  · have h1 := hg3.block b (by show b < w2.heap.size; omega) (fun e => he e.symm)
                    have h2 := hg2.block b (by omega) (fun e => he e.symm)
                    have h3 : (w2.drewN d).heap[b]? = w2.heap[b]? := rfl
                    rw [h1, h3, h2]
                    exact hbk.block b hbo
              clear HPR HG2 hback hg3
              go_wp2
              exact ⟨⟨i + 1, by omega, by go_num, hbel⟩, by simp [intOf]; omega⟩
    · go_wp2
      go_ret
      exact ⟨rfl, hb⟩

theorem lists_newT (base : Nat) (w : World) (vs : List Value) (Zs Ss : List (List Int)) (G : List Nat) (n : Nat) (hv : vs.length = n) (hg : G.length = n) (hO : ∀ i, i < n → OwnT base w (vs.getD i undef) (Zs.getD i []) (Ss.getD i []))
    (hG : ∀ i, i < n → (vs.getD i undef).ownBlock = some (G.getD i 0)) (hN : G.Nodup) : ListsT base w.heap.size 0 n (fun i => vs.getD i undef) (fun i => Zs.getD i []) (fun i => Ss.getD i []) (w.alloc (.cells vs.toArray 35)) where
  cell := fun i hi => by
    have hr : (w.alloc (.cells vs.toArray 35)).heap[w.heap.size]? = some (.cells vs.toArray 35 (0, 0)) := heap_alloc_new w _
    rw [cell_of_row _ _ _ _ _ _ hr]
    simp [List.getD, hv, hi]
  own := fun i hi => (hO i hi).grow (grow_alloc w _)
  apart := fun i k hi hk hne g e e2 => by
    rw [hG i hi] at e
    rw [hG k hk] at e2
    injection e with e
    injection e2 with e2
    have h1 : i < G.length := by omega
    have h2 : k < G.length := by omega
    have h3 : G[i] = G[k] := by
      simp only [List.getD, List.getElem?_eq_getElem h1, List.getElem?_eq_getElem h2, Option.getD_some] at e e2
      rw [e, e2]
    have hP := List.pairwise_iff_getElem.1 hN
    rcases Nat.lt_or_gt_of_ne hne with h | h
    · exact hP i k h1 h2 h h3
    · exact hP k i h2 h1 h h3.symm
  far := fun i hi e => by
    have := ((hO i hi).lt _ e).2
    omega

theorem lists_apT (base : Nat) (w : World) (vs : List Value) (Zs Ss : List (List Int)) (n : Nat) (hv : vs.length = n) (hO : ∀ i, i < n → OwnT base w (vs.getD i undef) (Zs.getD i []) (Ss.getD i []))
    (hA : ∀ i k, i < n → k < n → i ≠ k → ∀ g, (vs.getD i undef).ownBlock = some g → (vs.getD k undef).ownBlock ≠ some g) : ListsT base w.heap.size 0 n (fun i => vs.getD i undef) (fun i => Zs.getD i []) (fun i => Ss.getD i []) (w.alloc (.cells vs.toArray 35)) where
  cell := fun i hi => by
    have hr : (w.alloc (.cells vs.toArray 35)).heap[w.heap.size]? = some (.cells vs.toArray 35 (0, 0)) := heap_alloc_new w _
    rw [cell_of_row _ _ _ _ _ _ hr]
    simp [List.getD, hv, hi]
  own := fun i hi => (hO i hi).grow (grow_alloc w _)
  apart := hA
  far := fun i hi e => by
    have := ((hO i hi).lt _ e).2
    omega

end Go.Proofs.Ytagkmfgoahbclaa

/- BatchOrders' walk. -/
namespace Go.Proofs.Ytagkmfgoahbclaa
set_option maxRecDepth 20000
open Go.RowKit

def Apt (l : List Value) : Prop := l.Pairwise fun u v => ∀ h, u.ownBlock = some h → v.ownBlock ≠ some h
def InR (lo hi : Nat) (v : Value) : Prop := ∀ h, v.ownBlock = some h → lo ≤ h ∧ h < hi
theorem apt_cross {A B : List Value} {a b c d : Nat} (hA : ∀ u ∈ A, InR a b u) (hB : ∀ u ∈ B, InR c d u) (hd : b ≤ c ∨ d ≤ a) : ∀ u ∈ A, ∀ v ∈ B, ∀ h, u.ownBlock = some h → v.ownBlock ≠ some h := fun u hu v hv h e1 e2 => by
  have := hA u hu h e1
  have := hB v hv h e2
  omega
theorem apt_app {A B : List Value} (h1 : Apt A) (h2 : Apt B) (h3 : ∀ u ∈ A, ∀ v ∈ B, ∀ h, u.ownBlock = some h → v.ownBlock ≠ some h) : Apt (A ++ B) := List.pairwise_append.2 ⟨h1, h2, h3⟩
theorem apt_map (n : Nat) (f : Nat → Value) (h : ∀ i j, i < n → j < n → i ≠ j → ∀ q, (f i).ownBlock = some q → (f j).ownBlock ≠ some q) : Apt ((List.range n).map f) := by
  refine List.pairwise_map.2 (List.pairwise_iff_getElem.2 fun i j hi hj hij => ?_)
  simp only [List.length_range] at hi hj
  simp only [List.getElem_range]
  exact h i j hi hj (by omega)

theorem listsT_of {wb w : World} {g c base : Nat} {vs : List Value} (h : AccS wb w (.slice (some ⟨g, 0, none⟩) vs.length c) vs.length vs) (hO : ∀ u ∈ vs, ∃ zs sp, OwnT base wb u zs sp) (hA : Apt vs) : ∃ Z S, ListsT base g 0 vs.length (fun i => vs.getD i undef) Z S w := by
  have hex : ∀ i, ∃ zs sp, i < vs.length → OwnT base wb (vs.getD i undef) zs sp := fun i => by
    by_cases hi : i < vs.length
    · obtain ⟨zs, sp, h1⟩ := hO vs[i] (List.getElem_mem hi)
      exact ⟨zs, sp, fun _ => by rw [List.getD_eq_getElem?_getD, List.getElem?_eq_getElem hi]; exact h1⟩
    · exact ⟨[], [], fun h => absurd h hi⟩
  refine ⟨fun i => Classical.choose (hex i), fun i => Classical.choose (Classical.choose_spec (hex i)), fun i hi => ?_, fun i hi => ?_, fun i k hi hk hne q e1 e2 => ?_, fun i hi e => ?_⟩
  · rw [Nat.zero_add, h.own.cellAt i (by omega)]
    simp [List.getD, hi]
  · exact (Classical.choose_spec (Classical.choose_spec (hex i)) hi).grow h.bel
  · have hp := List.pairwise_iff_getElem.1 hA
    simp only [List.getD_eq_getElem?_getD, List.getElem?_eq_getElem hi, List.getElem?_eq_getElem hk, Option.getD_some] at e1 e2
    rcases Nat.lt_or_gt_of_ne hne with h' | h'
    · exact hp i k hi hk h' q e1 e2
    · exact hp k i hk hi h' q e2 e1
  · have h1 := (Classical.choose_spec (Classical.choose_spec (hex i)) hi).lt g e
    have h2 := (h.own.lt g rfl).1
    omega

theorem apart_nil (a : Option Addr) (c : Nat) (w : World) : Calls Try.prog 16 #[.slice a 0 c] w fun e w' => e = .returned (.bool true) ∧ Below w.heap.size w w' := by
  go_enter Try.func16, Try.ntmps16
  go_wp2_with fail
  go_loopw [3] (fun i wr => i = .int .i64 0 ∧ wr = w) (fun _ _ => 0)
  case atStart => exact ⟨rfl, rfl⟩
  case round =>
    obtain ⟨rfl, rfl⟩ := hrel
    go_wp2
    go_ret
    exact ⟨rfl, Below.refl _ _⟩

/-- [][]api.Pair{x, y}. -/
theorem wpList_bs2p {ops : Array Oper} {rest : List Oper} {op : Oper} {a : Act} {Q : Exit → Act → World → Prop} (w : World) (hgd : op.guard = none) (x y : Operand) (ho : op.op = .buildSlice 32 2 #[(0, x), (1, y)])
    (xa ya : Option Addr) (xl xc yl yc : Nat) (hx : a.eval x = .slice xa xl xc) (hy : a.eval y = .slice ya yl yc)
    (hk : ∀ w' g, w.heap.size ≤ g → Blk w' g 22 #[.slice xa xl xc, .slice ya yl yc] → Below w.heap.size w w' → wpList Try.prog ops Q rest (a.put op.dst (.slice (some ⟨g, 0, none⟩) 2 2)) w') : wpList Try.prog ops Q (op :: rest) a w := by
  refine wpList_plain hgd fun K hK => ?_
  obtain ⟨i, z, hi, hz, hs, hzs⟩ : ∃ i z, Try.prog.info? 22 = some i ∧ i.zero = some z ∧ i.size = 1 ∧ z.cells.size = 1 := ⟨_, _, rfl, rfl, rfl, rfl⟩
  have hrun := run_buildSlice (P := Try.prog) w 32 22 2 #[(0, .slice xa xl xc), (1, .slice ya yl yc)] #[.slice xa xl xc, .slice ya yl yc] i z Try.underlying32 hi hz (by rw [hs]; omega) (by rw [hs]; omega) (by
    rw [hs]
    obtain ⟨zs, hzz, hzl⟩ : ∃ zs : List Value, (Array.range (2 * 1)).map (z.cells[· % z.cells.size]!) = zs.toArray ∧ zs.length = 2 := ⟨_, (Array.toArray_toList).symm, by simp⟩
    rw [hzz]
    have h1 := fill_one (fun i => some (i * 1, 1)) 0 0 1 (.slice xa xl xc) [.slice xa xl xc] zs [(1, .slice ya yl yc)] rfl rfl rfl (by omega)
    have h2 := fill_one (fun i => some (i * 1, 1)) 1 1 1 (.slice ya yl yc) [.slice ya yl yc] (zs.take 0 ++ [.slice xa xl xc] ++ zs.drop (0 + 1)) [] rfl rfl rfl (by simp; omega)
    rw [show (#[(0, Value.slice xa xl xc), (1, Value.slice ya yl yc)] : Array (Nat × Value)).toList = [(0, Value.slice xa xl xc), (1, Value.slice ya yl yc)] from rfl, h1, h2, Instr.fill]
    match zs, hzl with
    | [z1, z2], _ => simp)
  unfold Oper.wp execOp
  simp only [ho, List.map_toArray, List.map_cons, List.map_nil, hx, hy, Sem.run_bind, hrun, Result.andThen_ok, Sem.run_pure]
  exact hK _ _ (hk _ w.heap.size (Nat.le_refl _) (Blk.new w _ _) (grow_alloc w _))
/-- [][]byte{x, y} in a region that draws its order. -/
theorem step_bs2s {ops : Array Oper} {o : Oper} {a : Act} {K : Act → World → Prop} {Q : Exit → Act → World → Prop} {E : Prop} (w : World) (hgd : o.guard = none) (x y : Operand) (ho : o.op = .buildSlice 30 2 #[(0, x), (1, y)])
    (xa ya : Option Addr) (xl xc yl yc : Nat) (hx : a.eval x = .slice xa xl xc) (hy : a.eval y = .slice ya yl yc)
    (hk : ∀ w' g, w.heap.size ≤ g → Blk w' g 35 #[.slice xa xl xc, .slice ya yl yc] → Below w.heap.size w w' → K (a.put o.dst (.slice (some ⟨g, 0, none⟩) 2 2)) w') : if Region.wanted o (yielded ops a.tmps) = true then Oper.wp Try.prog o a w K Q else E := by
  have hw : Region.wanted o (yielded ops a.tmps) = true := by simp [Region.wanted, hgd]
  rw [if_pos hw]
  obtain ⟨i, z, hi, hz, hs, hzs⟩ : ∃ i z, Try.prog.info? 35 = some i ∧ i.zero = some z ∧ i.size = 1 ∧ z.cells.size = 1 := ⟨_, _, rfl, rfl, rfl, rfl⟩
  have hrun := run_buildSlice (P := Try.prog) w 30 35 2 #[(0, .slice xa xl xc), (1, .slice ya yl yc)] #[.slice xa xl xc, .slice ya yl yc] i z u_listsL hi hz (by rw [hs]; omega) (by rw [hs]; omega) (by
    rw [hs]
    obtain ⟨zs, hzz, hzl⟩ : ∃ zs : List Value, (Array.range (2 * 1)).map (z.cells[· % z.cells.size]!) = zs.toArray ∧ zs.length = 2 := ⟨_, (Array.toArray_toList).symm, by simp⟩
    rw [hzz]
    have h1 := fill_one (fun i => some (i * 1, 1)) 0 0 1 (.slice xa xl xc) [.slice xa xl xc] zs [(1, .slice ya yl yc)] rfl rfl rfl (by omega)
    have h2 := fill_one (fun i => some (i * 1, 1)) 1 1 1 (.slice ya yl yc) [.slice ya yl yc] (zs.take 0 ++ [.slice xa xl xc] ++ zs.drop (0 + 1)) [] rfl rfl rfl (by simp; omega)
    rw [show (#[(0, Value.slice xa xl xc), (1, Value.slice ya yl yc)] : Array (Nat × Value)).toList = [(0, Value.slice xa xl xc), (1, Value.slice ya yl yc)] from rfl, h1, h2, Instr.fill]
    match zs, hzl with
    | [z1, z2], _ => simp)
  unfold Oper.wp execOp
  simp only [ho, List.map_toArray, List.map_cons, List.map_nil, hx, hy, Sem.run_bind, hrun, Result.andThen_ok, Sem.run_pure]
  exact hk _ w.heap.size (Nat.le_refl _) (Blk.new w _ _) (grow_alloc w _)
theorem step_appSs {ops : Array Oper} {o : Oper} {a : Act} {K : Act → World → Prop} {Q : Exit → Act → World → Prop} {E : Prop} (w : World) (hgd : o.guard = none) (s x : Operand)
    (hop : o.op = .call { callee := .builtin .append, args := #[s, x], argTypes := #[30, 30] })
    (base : Nat) (v : Value) (n : Nat) (xs : List Value) (hown : w.ownsRow base 35 1 v n xs) (hs : a.eval s = v) (ad : Addr) (m c : Nat) (news : List Value) (hl : news.length = m) (hx : a.eval x = .slice (some ad) m c)
    (hnews : ∀ j u, news[j]? = some u → w.cell? (ad.add j) = some u) (h1 : ∀ u ∈ news, u.oneCell' = true) (hb : n + m ≤ 1000000000) (hbase : base ≤ w.heap.size)
    (h : ∀ v' w', w'.ownsRow base 35 1 v' (n + m) (xs ++ news) → w.grownBy w' v.ownBlock → K (a.put o.dst v') w') : if Region.wanted o (yielded ops a.tmps) = true then Oper.wp Try.prog o a w K Q else E := by
  have hw : Region.wanted o (yielded ops a.tmps) = true := by simp [Region.wanted, hgd]
  rw [if_pos hw]
  obtain ⟨i, hi, hz, hsz, hby⟩ := info_parts info_slice
  obtain ⟨v', w', hr, h2, h3, _⟩ := run_append_own (P := Try.prog) w base _ o.type _ i _ 1 24 u_listsL hi hz hsz hby rfl (by omega) v n xs hown ad m c news (by omega) hnews h1 (by simp only [maxLen]; omega) (by omega) hbase
  unfold Oper.wp execOp
  simp only [hop, resolve, invoke, builtin, Sem.run_bind, Sem.run_pure, Result.andThen_ok, List.map_toArray, List.map_cons, List.map_nil, hs, hx, hr]
  exact h v' w' h2 h3
theorem sl_two (a b : Option Addr) (l c m d : Nat) : ∀ u ∈ [Value.slice a l c, Value.slice b m d], u.oneCell' = true := fun u hu => by
  simp only [List.mem_cons, List.not_mem_nil, or_false] at hu
  rcases hu with rfl | rfl <;> rfl

/-- Lists that say the same, write by write. -/
theorem nrm_each {rs qs : List Wt} (e : rs.map nrm = qs.map nrm) (h1 : ∀ x ∈ rs, x.g = true → x.b = []) (h2 : ∀ x ∈ qs, x.g = true → x.b = []) : rs.length = qs.length ∧ ∀ i, i < rs.length → rs[i]!.k = qs[i]!.k ∧ rs[i]!.g = qs[i]!.g ∧ rs[i]!.b = qs[i]!.b := by
  have hl : rs.length = qs.length := by have := congrArg List.length e; simpa using this
  refine ⟨hl, fun i hi => ?_⟩
  have hi2 : i < qs.length := by omega
  have e1 : nrm rs[i] = nrm qs[i] := by
    have h3 : (rs.map nrm)[i]? = (qs.map nrm)[i]? := by rw [e]
    simpa [hi, hi2] using h3
  rw [getElem!_pos rs i hi, getElem!_pos qs i hi2]
  have hk := nrm_k e1
  have hg : rs[i].g = qs[i].g := by have := congrArg Wt.g e1; exact this
  have hb := congrArg Wt.b e1
  unfold nrm at hb
  simp only at hb
  refine ⟨hk, hg, ?_⟩
  cases hq : rs[i].g with
  | true =>
    rw [h1 _ (List.getElem_mem hi) hq, h2 _ (List.getElem_mem hi2) (by rw [← hg]; exact hq)]
  | false =>
    rw [← hg, hq] at hb
    simpa using hb

end Go.Proofs.Ytagkmfgoahbclaa
