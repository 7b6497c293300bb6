/- Slices of the call's own over a block of bytes of any type (a key that was boxed, too), and OverBytes over them. -/
import Derived.Test.YtjcklpdifanjlaaDoorCd27
import Derived.Test.YtjcklpdifanjlaaDoorCd03
import Derived.Test.YtjcklpdifanjlaaDoorCd08
namespace Go.Proofs.YtjcklpdifanjlaaDoor
set_option maxRecDepth 20000
open Go.RowKit

theorem Blk.bput {w : World} {g : Nat} {t : TypeId} {zs : List Int} (h : Blk w g t (B zs)) (i : Nat) (z : Int) : Blk (w.setCell ⟨g, i, none⟩ (.int .u8 z)) g t (B (zs.set i z)) := by
  have := h.set i (.int .u8 z)
  rw [B_set] at this
  exact this

/-- A slice of the call's own, from block 'base' on: the bytes zs, behind them the room sp; the block is of any type. -/
def OwnT (base : Nat) (w : World) (v : Value) (zs sp : List Int) : Prop :=
  Bytes zs ∧ Bytes sp ∧ zs.length + sp.length ≤ maxLen ∧
  ((v = .slice none 0 0 ∧ zs = [] ∧ sp = []) ∨ ∃ g t rest, base ≤ g ∧ v = .slice (some ⟨g, 0, none⟩) zs.length (zs.length + sp.length) ∧ Blk w g t (B (zs ++ sp ++ rest)))

theorem Own.toT {base : Nat} {w : World} {v : Value} {zs sp : List Int} (h : Own base w v zs sp) : OwnT base w v zs sp := by
  obtain ⟨h1, h2, h3, h4⟩ := h
  refine ⟨h1, h2, h3, ?_⟩
  rcases h4 with h4 | ⟨g, rest, hg, h5, h6⟩
  · exact .inl h4
  · exact .inr ⟨g, _, rest, hg, h5, h6⟩

theorem OwnT.slice {b : Nat} {w : World} {v : Value} {zs sp : List Int} (h : OwnT b w v zs sp) : ∃ a c, v = .slice a zs.length c := by
  obtain ⟨_, _, _, h4⟩ := h
  rcases h4 with ⟨rfl, rfl, rfl⟩ | ⟨g, t, rest, hg, rfl, h5⟩
  · exact ⟨_, _, rfl⟩
  · exact ⟨_, _, rfl⟩

theorem OwnT.mono {b b' : Nat} {w : World} {v : Value} {zs sp : List Int} (h : OwnT b w v zs sp) (hb : b' ≤ b) : OwnT b' w v zs sp := by
  obtain ⟨h1, h2, h3, h4⟩ := h
  refine ⟨h1, h2, h3, ?_⟩
  rcases h4 with h4 | ⟨g, t, rest, hg, h5⟩
  · exact .inl h4
  · exact .inr ⟨g, t, rest, Nat.le_trans hb hg, h5⟩

theorem OwnT.of_block {b : Nat} {w w' : World} {v : Value} {zs sp : List Int} (h : OwnT b w v zs sp) (hw : ∀ k, v.ownBlock = some k → w'.heap[k]? = w.heap[k]?) : OwnT b w' v zs sp := by
  obtain ⟨h1, h2, h3, h4⟩ := h
  refine ⟨h1, h2, h3, ?_⟩
  rcases h4 with h4 | ⟨g, t, rest, hg, rfl, h5⟩
  · exact .inl h4
  · exact .inr ⟨g, t, rest, hg, rfl, h5.of_block (hw g rfl)⟩

theorem OwnT.lt {b : Nat} {w : World} {v : Value} {zs sp : List Int} (h : OwnT b w v zs sp) : ∀ k, v.ownBlock = some k → b ≤ k ∧ k < w.heap.size := by
  obtain ⟨h1, h2, h3, h4⟩ := h
  intro k hk
  rcases h4 with ⟨rfl, _⟩ | ⟨g, t, rest, hg, rfl, h5⟩
  · simp [Value.ownBlock] at hk
  · simp only [Value.ownBlock, Option.some.injEq] at hk
    subst hk
    exact ⟨hg, h5.lt⟩

theorem OwnT.grow {b : Nat} {w w' : World} {v : Value} {zs sp : List Int} (h : OwnT b w v zs sp) (hb : Below w.heap.size w w') : OwnT b w' v zs sp := h.of_block fun k hk => hb.block k (h.lt k hk).2

set_option maxHeartbeats 400000 in
theorem over_rowT (g n : Nat) (t : TypeId) (zs rest : List Int) (w : World) (h : Blk w g t (B (zs ++ rest))) (hl : zs.length ≤ maxLen) :
    Calls Tryd.prog 49 #[.slice (some ⟨g, 0, none⟩) n zs.length] w fun e w' => e = .returned (.tuple #[]) ∧ Blk w' g t (B (zs.map x5 ++ rest)) ∧ w.grownBy w' (some g) ∧ w'.heap.size = w.heap.size := by
  unfold maxLen at hl
  have HR : Hid (Blk w g t (B (((zs.take 0).map x5 ++ zs.drop 0) ++ rest))) := by
    show Blk _ _ _ _
    simpa using h
  clear h
  go_enter Tryd.func49, Tryd.ntmps49
  go_wp2_with fail
  go_loopw [3] (fun i wr => ∃ k : Nat, k ≤ zs.length ∧ i = .int .i64 k ∧ Hid (Blk wr g t (B (((zs.take k).map x5 ++ zs.drop k) ++ rest))) ∧ w.grownBy wr (some g) ∧ wr.heap.size = w.heap.size) (fun i _ => zs.length - (intOf i).toNat)
  case atStart => exact ⟨0, by omega, by simp, HR, World.grownBy.refl _ _, rfl⟩
  case round =>
    obtain ⟨k, hk, rfl, hr, hb, hs⟩ := hrel
    by_cases hlt : k < zs.length
    · have hL : ((zs.take k).map x5 ++ zs.drop k).length = zs.length := by simp; omega
      have hc := hr.out.bcell k (by rw [List.length_append]; omega)
      rw [show (((zs.take k).map x5 ++ zs.drop k) ++ rest).getD k 0 = ((zs.take k).map x5 ++ zs.drop k).getD k 0 by simp only [List.getD]; rw [List.getElem?_append_left (by omega)], over_get zs k hlt] at hc
      have hf := hr.out.frozen k
      have this := hr.out.bput k (x5 (zs.getD k 0))
      rw [List.set_append_left _ _ (by omega), over_round zs k hlt] at this
      generalize zs.getD k 0 = z at hc this
      have HT := hidden this
      clear this hL
      go_wp2
      refine ⟨⟨k + 1, by omega, by go_num, ?_, grown_trans hb (grown_setCell _ _ _ _), by simpa using hs⟩, by simp [intOf]; omega⟩
      exact HT
    · go_wp2
      go_end0
      refine ⟨rfl, ?_, hb, hs⟩
      have := hr.out
      rw [List.take_of_length_le (by omega), List.drop_of_length_le (by omega), List.append_nil] at this
      exact this

/-- Of a slice of the call's own, its room with it. -/
theorem OwnT.full {b : Nat} {w : World} {a : Option Addr} {l c : Nat} {zs sp : List Int} (h : OwnT b w (.slice a l c) zs sp) : Reads w (.slice a c c) (zs ++ sp) ∧ c = zs.length + sp.length ∧ l = zs.length ∧ c ≤ maxLen := by
  obtain ⟨h1, h2, h3, h4⟩ := h
  rcases h4 with ⟨e, rfl, rfl⟩ | ⟨g, t, rest, hg, e, h5⟩
  · injection e with e1 e2 e3
    subst e1; subst e2; subst e3
    exact ⟨Reads.nil _, rfl, rfl, by simp [maxLen]⟩
  · injection e with e1 e2 e3
    subst e1; subst e2; subst e3
    refine ⟨⟨_, _, by rw [List.length_append], by simp, fun h => by simp at h, h1.append h2, fun _ => ⟨g, 0, rfl, fun i hi => ?_⟩⟩, rfl, rfl, h3⟩
    rw [Nat.zero_add, h5.bcell i (by simp at hi ⊢; omega)]
    simp only [List.getD]
    rw [List.getElem?_append_left hi]

/-- OverBytes, and OverBytes once more: as it was. -/
theorem over_pairT (base : Nat) (v : Value) (zs sp : List Int) (w : World) (h : OwnT base w v zs sp) :
    Calls Tryd.prog 49 #[v] w fun e w1 => e = .returned (.tuple #[]) ∧ w.grownBy w1 v.ownBlock ∧ w1.heap.size = w.heap.size ∧
      ∀ w2, (∀ k, v.ownBlock = some k → w2.heap[k]? = w1.heap[k]?) → Calls Tryd.prog 49 #[v] w2 fun e w3 => e = .returned (.tuple #[]) ∧ w2.grownBy w3 v.ownBlock ∧ w3.heap.size = w2.heap.size ∧ ∀ k, v.ownBlock = some k → w3.heap[k]? = w.heap[k]? := by
  obtain ⟨h1, h2, h3, h4⟩ := h
  rcases h4 with ⟨rfl, rfl, rfl⟩ | ⟨g, t, rest, hg, rfl, hr⟩
  · refine (over_nil w).mono ?_
    rintro e w' ⟨rfl, rfl⟩
    refine ⟨rfl, World.grownBy.refl _ _, rfl, fun w2 _ => ?_⟩
    refine (over_nil w2).mono ?_
    rintro e w3 ⟨rfl, rfl⟩
    exact ⟨rfl, World.grownBy.refl _ _, rfl, fun k hk => by simp [Value.ownBlock] at hk⟩
  · have := over_rowT g zs.length t (zs ++ sp) rest w hr (by simpa using h3)
    rw [List.length_append] at this
    refine this.mono ?_
    rintro e w1 ⟨rfl, hr1, hg1, hs1⟩
    refine ⟨rfl, hg1, hs1, fun w2 hw2 => ?_⟩
    have hr2 : Blk w2 g t (B ((zs ++ sp).map x5 ++ rest)) := hr1.of_block (hw2 g rfl)
    have this2 := over_rowT g zs.length t ((zs ++ sp).map x5) rest w2 hr2 (by simpa using h3)
    rw [List.length_map, List.length_append] at this2
    refine this2.mono ?_
    rintro e w3 ⟨rfl, hr3, hg3, hs3⟩
    refine ⟨rfl, hg3, hs3, fun k hk => ?_⟩
    simp only [Value.ownBlock, Option.some.injEq] at hk
    subst hk
    rw [map_x5 (h1.append h2)] at hr3
    unfold Blk at hr hr3
    rw [hr, hr3]

/-- The lists that are held against each other. -/
structure ListsT (base gl off n : Nat) (V : Nat → Value) (Z S : Nat → List Int) (w : World) : Prop where
  cell : ∀ i, i < n → w.cell? ⟨gl, off + i, none⟩ = some (V i)
  own : ∀ i, i < n → OwnT base w (V i) (Z i) (S i)
  apart : ∀ i k, i < n → k < n → i ≠ k → ∀ g, (V i).ownBlock = some g → (V k).ownBlock ≠ some g
  far : ∀ i, i < n → (V i).ownBlock ≠ some gl

theorem ListsT.of_block {base gl off n : Nat} {V : Nat → Value} {Z S : Nat → List Int} {w w' : World} (h : ListsT base gl off n V Z S w) (hw : ∀ k, k < w.heap.size → w'.heap[k]? = w.heap[k]?) : ListsT base gl off n V Z S w' where
  cell := fun i hi => by
    have := h.cell i hi
    have hlt := block_lt_of_cell this
    rw [World.cell?_of_block (w := w) (hw _ hlt)]
    exact this
  own := fun i hi => (h.own i hi).of_block fun k hk => hw k ((h.own i hi).lt k hk).2
  apart := h.apart
  far := h.far

set_option maxRecDepth 100000 in
set_option maxHeartbeats 4000000 in
theorem apart_walkT (base gl off n cap : Nat) (V : Nat → Value) (Z S : Nat → List Int) (w : World) (hn : n ≤ 17592186044416) (h : ListsT base gl off n V Z S w) (hcap : n ≤ cap) :
    Calls Tryd.prog 19 #[.slice (some ⟨gl, off, none⟩) n cap] w fun e w' => e = .returned (.bool true) ∧ Below w.heap.size w w' := by
  have H := hidden h
  clear h
  go_enter Tryd.func19, Tryd.ntmps19
  go_wp2_with fail
  go_loopw [3] (fun i wr => ∃ k : Nat, k ≤ n ∧ i = .int .i64 k ∧ Below w.heap.size w wr) (fun i _ => n - (intOf i).toNat)
  case atStart => exact ⟨0, by omega, rfl, Below.refl _ _⟩
  case round =>
    obtain ⟨i, hi, rfl, hb⟩ := hrel
    obtain ⟨wo, rfl⟩ : ∃ x, x = wr := ⟨_, rfl⟩
    by_cases hlt : i < n
    · have HW := hidden (H.out.of_block (w' := wo) (fun k hk => hb.block k hk))
      go_wp2_with (at_make; refine wpList_mks _ rfl _ _ rfl _ _ _ _ n rfl rfl rfl rfl hn ?_; intro w1 hr1 hb1 hs1)
      have HR1 : Hid (SRow w1 wo.heap.size ((List.range 0).map (txt Z S) ++ List.replicate (n - 0) ByteArray.empty)) := by
        show SRow _ _ _
        simpa using hr1
      clear hr1
      go_loopw [5] (fun j wk => ∃ k : Nat, k ≤ n ∧ j = .int .i64 k ∧ Hid (SRow wk wo.heap.size ((List.range k).map (txt Z S) ++ List.replicate (n - k) ByteArray.empty)) ∧ Below wo.heap.size wo wk ∧ wk.heap.size = wo.heap.size + 1) (fun j _ => n - (intOf j).toNat)
      case atStart => exact ⟨0, by omega, rfl, HR1, hb1, hs1⟩
      case round =>
        obtain ⟨k, hk, rfl, hS, hbk, hsk⟩ := hrel
        obtain ⟨wk, rfl⟩ : ∃ x, x = wr := ⟨_, rfl⟩
        by_cases hkn : k < n
        · obtain ⟨a, c, hv⟩ := (HW.out.own k hkn).slice
          have hcell := HW.out.cell k hkn
          have hown := HW.out.own k hkn
          rw [hv] at hcell hown
          have hful := hown.full
          generalize (Z k).length = l at *
          have HC : Hid (∀ w', Below wo.heap.size wo w' → w'.cell? ⟨gl, off + k, none⟩ = some (.slice a l c) ∧ (convert 28 9 (.slice a c c)).run Tryd.prog w' = .ok (.string (txt Z S k)) w') :=
            fun w' hw' => ⟨(hw'.cell (p := ⟨gl, off + k, none⟩) (block_lt_of_cell hcell)).trans hcell, conv_reads (hful.1.grow hw')⟩
          have hcm : c ≤ 9223372036854775807 := by have := hful.2.2.2; simp only [maxLen] at this; omega
          have hsc := hS.out.cell k (by simp; omega)
          have hsf := hS.out.frozen k
          have kk : (k : Int) < (n : Int) := by omega
          have k0 : (0 : Int) ≤ (k : Int) := by omega
          have HTS : Hid (SRow (wk.setCell ⟨wo.heap.size, k, none⟩ (.string (txt Z S k))) wo.heap.size ((List.range (k + 1)).map (txt Z S) ++ List.replicate (n - (k + 1)) ByteArray.empty)) := by
            have := hS.out.set k (txt Z S k)
            rw [txts_set Z S n k hkn] at this
            exact this
          generalize txt Z S k = tx at *
          generalize ((List.range k).map (txt Z S) ++ List.replicate (n - k) ByteArray.empty).getD k ByteArray.empty = old at *
          have hbd := hbk.drew
          have hbs : Below wo.heap.size wo ((wk.setCell ⟨wo.heap.size, k, none⟩ (.string tx)).drew) := (hbk.setCell (Nat.le_refl _) _).drew
          clear hown hful hcell
          go_wp2_with fail
          go_region_held2 (fun w' => w'.cell? ⟨gl, off + k, none⟩ = some (.slice a l c) ∧ (convert 28 9 (.slice a c c)).run Tryd.prog w' = .ok (.string tx) w')
            (first | exact HC.out _ hbd | exact HC.out _ hbs)
            (fail)
          go_wp2
          exact ⟨⟨k + 1, by omega, by go_num, HTS, hbs, by simpa using hsk⟩, by simp [intOf]; omega⟩
        · have hke : k = n := by omega
          subst hke
          have HLk := hidden (HW.out.of_block (w' := wk) (fun j hj => hbk.block j hj))
          obtain ⟨a, c, hv⟩ := (HW.out.own i hlt).slice
          have hci := HLk.out.cell i hlt
          rw [hv] at hci
          have hgl : gl < wo.heap.size := block_lt_of_cell (HW.out.cell i hlt)
          have HOV := hidden (over_pairT base (V i) (Z i) (S i) wk (HLk.out.own i hlt))
          have hfar := HW.out.far i hlt
          have HFAR := hidden hfar
          have HV := hidden hv
          have ki : (i : Int) < (k : Int) := by omega
          have i0 : (0 : Int) ≤ (i : Int) := by omega
          rw [hv] at HOV
          generalize (Z i).length = l at *
          clear hv hfar
          go_wp2_with (go_at_call 49; refine HOV.out.mono ?_; rintro e w2 ⟨rfl, hg2, hs2, hpair⟩)
          have HPR := hidden hpair
          have HG2 := hidden hg2
          clear hpair hg2
          -- what holds behind the first writing over
          have hci2 : w2.cell? ⟨gl, off + i, none⟩ = some (.slice a l c) := by
            refine HG2.out.cell hci ?_
            intro e
            exact HFAR.out (by rw [HV.out]; exact e.symm)
          have HT : Hid (∀ j, j < k → j ≠ i → ∃ aj lj cj, w2.cell? ⟨gl, off + j, none⟩ = some (.slice aj lj cj) ∧ cj ≤ 9223372036854775807 ∧ (∀ d, (convert 28 9 (.slice aj cj cj)).run Tryd.prog (w2.drewN d) = .ok (.string (txt Z S j)) (w2.drewN d)) ∧ w2.cell? ⟨wo.heap.size, j, none⟩ = some (.string (txt Z S j))) := by
            intro j hj hji
            obtain ⟨aj, cj, hvj⟩ := (HW.out.own j hj).slice
            have hcj := HLk.out.cell j hj
            have hoj := HLk.out.own j hj
            have hne : (V j).ownBlock ≠ (Value.slice a l c).ownBlock ∨ (V j).ownBlock = none := by
              cases hb : (V j).ownBlock with
              | none => exact .inr rfl
              | some g =>
                refine .inl (fun e => ?_)
                exact HW.out.apart j i hj hlt hji g hb (by rw [HV.out]; exact e.symm)
            have hoj2 : OwnT base w2 (V j) (Z j) (S j) := by
              refine hoj.of_block (fun g hg => HG2.out.block g (hoj.lt g hg).2 ?_)
              rcases hne with h | h
              · rw [← hg]; exact h
              · rw [h] at hg; cases hg
            rw [hvj] at hcj hoj2
            have hful := hoj2.full
            refine ⟨aj, _, cj, HG2.out.cell hcj ?_, by have := hful.2.2.2; simp only [maxLen] at this; omega, fun d => ?_, ?_⟩
            · intro e
              exact HFAR.out (by rw [HV.out]; exact e.symm)
            · exact conv_reads (hful.1.grow (below_drewN (Below.refl _ _) d))
            · have hsc := hS.out.cell j (by simp; omega)
              have e1 : ((List.range k).map (txt Z S) ++ List.replicate (k - k) ByteArray.empty).getD j ByteArray.empty = txt Z S j := by
                simp [List.getD, hj]
              rw [e1] at hsc
              refine HG2.out.cell hsc ?_
              intro e
              have := (HLk.out.own i hlt).lt wo.heap.size (by rw [HV.out]; exact e.symm)
              have h3 := (HW.out.own i hlt).lt wo.heap.size (by rw [HV.out]; exact e.symm)
              omega
          go_wp2_with fail
          go_loopw [6] (fun j wl => ∃ (m d : Nat), m ≤ k ∧ j = .int .i64 m ∧ wl = w2.drewN d) (fun j _ => k - (intOf j).toNat)
          case atStart => exact ⟨0, 0, by omega, rfl, rfl⟩
          case round =>
            obtain ⟨m, d, hm, rfl, rfl⟩ := hrel
            by_cases hmk : m < k
            · by_cases hmi : m = i
              · subst hmi
                go_wp2_with fail
                go_quiet (fail)
                go_wp2
                exact ⟨⟨m + 1, _, by omega, by go_num, rfl⟩, by simp [intOf]; omega⟩
              · obtain ⟨aj, lj, cj, q1, q2, q3, q4⟩ := HT.out m hmk hmi
                have hne : ((m : Int) != (i : Int)) = true := by rw [bne_iff_ne]; omega
                have m1 : (m : Int) < (k : Int) := by omega
                have m0 : (0 : Int) ≤ (m : Int) := by omega
                generalize txt Z S m = tx at *
                go_wp2_with fail
                go_quiet (fail)
                go_wp2
                exact ⟨⟨m + 1, _, by omega, by go_num, rfl⟩, by simp [intOf]; omega⟩
            · go_wp2_with fail
              refine (HPR.out (w2.drewN d) (fun _ _ => rfl)).mono ?_
              rintro e w3 ⟨rfl, hg3, hs3, hback⟩
              have hbel : Below w.heap.size w w3 := by
                have hg2 := HG2.out
                refine hb.trans ⟨?_, ?_, ?_, ?_, fun b hb' => ?_⟩
                · exact hg3.os.trans (hg2.os.trans hbk.os)
                · exact hg3.tape.trans (hg2.tape.trans hbk.tape)
                · exact hg3.output.trans (hg2.output.trans hbk.output)
                · have h1 := hg3.size
                  have h2 := hg2.size
                  have h3 := hbk.size
                  have h4 : (w2.drewN d).heap.size = w2.heap.size := rfl
                  omega
                · have hbo : b < wo.heap.size := Nat.lt_of_lt_of_le hb' hb.size
                  by_cases he : (Value.slice a l c).ownBlock = some b
                  · rw [hback b he]
                    exact hbk.block b hbo
                  · have h1 := hg3.block b (by show b < w2.heap.size; omega) (fun e => he e.symm)
                    have h2 := hg2.block b (by omega) (fun e => he e.symm)
                    have h3 : (w2.drewN d).heap[b]? = w2.heap[b]? := rfl
                    rw [h1, h3, h2]
                    exact hbk.block b hbo
              clear HPR HG2 hback hg3
              go_wp2
              exact ⟨⟨i + 1, by omega, by go_num, hbel⟩, by simp [intOf]; omega⟩
    · go_wp2
      go_ret
      exact ⟨rfl, hb⟩

theorem lists_newT (base : Nat) (w : World) (vs : List Value) (Zs Ss : List (List Int)) (G : List Nat) (n : Nat) (hv : vs.length = n) (hg : G.length = n) (hO : ∀ i, i < n → OwnT base w (vs.getD i undef) (Zs.getD i []) (Ss.getD i []))
    (hG : ∀ i, i < n → (vs.getD i undef).ownBlock = some (G.getD i 0)) (hN : G.Nodup) : ListsT base w.heap.size 0 n (fun i => vs.getD i undef) (fun i => Zs.getD i []) (fun i => Ss.getD i []) (w.alloc (.cells vs.toArray 28)) where
  cell := fun i hi => by
    have hr : (w.alloc (.cells vs.toArray 28)).heap[w.heap.size]? = some (.cells vs.toArray 28 (0, 0)) := heap_alloc_new w _
    rw [cell_of_row _ _ _ _ _ _ hr]
    simp [List.getD, hv, hi]
  own := fun i hi => (hO i hi).grow (grow_alloc w _)
  apart := fun i k hi hk hne g e e2 => by
    rw [hG i hi] at e
    rw [hG k hk] at e2
    injection e with e
    injection e2 with e2
    have h1 : i < G.length := by omega
    have h2 : k < G.length := by omega
    have h3 : G[i] = G[k] := by
      simp only [List.getD, List.getElem?_eq_getElem h1, List.getElem?_eq_getElem h2, Option.getD_some] at e e2
      rw [e, e2]
    have hP := List.pairwise_iff_getElem.1 hN
    rcases Nat.lt_or_gt_of_ne hne with h | h
    · exact hP i k h1 h2 h h3
    · exact hP k i h2 h1 h h3.symm
  far := fun i hi e => by
    have := ((hO i hi).lt _ e).2
    omega

end Go.Proofs.YtjcklpdifanjlaaDoor

/- NodeCodes' walk: the law returns true at every node and every list of bytes, and nothing that was in memory turns. -/
namespace Go.Proofs.YtjcklpdifanjlaaDoor
set_option maxRecDepth 20000
open Go.RowKit

theorem lists_apT (base : Nat) (w : World) (vs : List Value) (Zs Ss : List (List Int)) (n : Nat) (hv : vs.length = n) (hO : ∀ i, i < n → OwnT base w (vs.getD i undef) (Zs.getD i []) (Ss.getD i []))
    (hA : ∀ i k, i < n → k < n → i ≠ k → ∀ g, (vs.getD i undef).ownBlock = some g → (vs.getD k undef).ownBlock ≠ some g) : ListsT base w.heap.size 0 n (fun i => vs.getD i undef) (fun i => Zs.getD i []) (fun i => Ss.getD i []) (w.alloc (.cells vs.toArray 28)) where
  cell := fun i hi => by
    have hr : (w.alloc (.cells vs.toArray 28)).heap[w.heap.size]? = some (.cells vs.toArray 28 (0, 0)) := heap_alloc_new w _
    rw [cell_of_row _ _ _ _ _ _ hr]
    simp [List.getD, hv, hi]
  own := fun i hi => (hO i hi).grow (grow_alloc w _)
  apart := hA
  far := fun i hi e => by
    have := ((hO i hi).lt _ e).2
    omega

theorem lent_at (v : Value) (zs : List Int) (w : World) (h : Reads w v zs) (hl : zs.length ≤ 140737488355328) :
    Calls Tryd.prog 8 #[v] w fun e w' => ∃ g, e = .returned (.slice (some ⟨g, 0, none⟩) zs.length (zs.length + 5)) ∧ w.heap.size ≤ g ∧ Row w' g (zs ++ marks zs.length) ∧ Below w.heap.size w w' :=
  (lent_any v zs w h hl).mono fun _ _ ⟨h1, h2, h3, _⟩ => ⟨_, h1, Nat.le_refl _, h2, h3⟩

theorem row_reads {w : World} {g : Nat} {zs : List Int} (h : Row w g (zs ++ marks zs.length)) (hb : Bytes zs) : Reads w (.slice (some ⟨g, 0, none⟩) zs.length (zs.length + 5)) zs := by
  refine ⟨_, _, rfl, by omega, (fun e => by cases e), hb, fun _ => ⟨g, 0, rfl, fun i hi => ?_⟩⟩
  rw [Nat.zero_add, h.cell i (by simp; omega)]
  simp [List.getD, hi, List.getElem?_append_left hi]

set_option maxHeartbeats 8000000 in
theorem nodeCodes_walk (k : Int) (a b c d : List Int) (v : Value) (zs : List Int) (w : World) (h : Nd k a b c d) (hv : Reads w v zs) (hlz : zs.length ≤ 140737488355328 - 4096) (hL : Laid w) :
    Calls Tryd.prog 3 #[.agg (B (nd k a b c d)), v] w fun e w' => e = .returned (.bool true) ∧ Below w.heap.size w w' := by
  obtain ⟨fs, hu⟩ := u_node
  have HU := hidden hu
  have KV := hidden hv.kp
  have KW := hidden (below_kp w)
  have KL := hidden hL.kp
  have HF := hidden h.facts
  have hby : Bytes zs := by obtain ⟨_, _, _, _, _, hb, _⟩ := hv; exact hb
  have HBY := hidden hby
  have HLE : Hid (∀ w', Reads w' v zs → Calls Tryd.prog 8 #[v] w' fun e w'' => ∃ g, e = .returned (.slice (some ⟨g, 0, none⟩) zs.length (zs.length + 5)) ∧ w'.heap.size ≤ g ∧ Row w'' g (zs ++ marks zs.length) ∧ Below w'.heap.size w' w'') := fun w' hr => lent_at v zs w' hr (by omega)
  have HKP : Hid (∀ w' g, Row w' g (zs ++ marks zs.length) → Reads w' v zs → Calls Tryd.prog 18 #[.slice (some ⟨g, 0, none⟩) zs.length (zs.length + 5), v] w' fun e w'' => e = .returned (.bool true) ∧ Below w'.heap.size w' w'') := fun w' g hr hv => kept_true g v zs w' hr hv (by omega)
  have HLZ : Hid (zs.length ≤ 140737488355328 - 4096) := hlz
  obtain ⟨D, hD⟩ : ∃ D, D = dgN k a b c d := ⟨_, rfl⟩
  obtain ⟨oE, hoE⟩ : ∃ x, x = okE k a b c d := ⟨_, rfl⟩
  have hDl : D.length = 32 := by
    rw [hD, dgN]
    split
    · exact dig_length _
    · rfl
  have HC : Hid (∀ w', Calls Tryd.prog 15 #[.agg (B (nd k a b c d))] w' fun e w'' => e = .returned (.int .i64 oE) ∧ Below w'.heap.size w' w'') := fun w' => by rw [hoE]; exact check_any k a b c d w' h
  have HCr : Hid (∀ w', Calls Tryd.prog 16 #[.agg (B (nd k a b c d))] w' fun e w'' => e = .returned (.int .i64 oE) ∧ Below w'.heap.size w' w'') := fun w' => by rw [hoE]; exact refCheck_any k a b c d w' h
  have HG : Hid (∀ w', Laid w' → Calls Tryd.prog 9 #[.agg (B (nd k a b c d))] w' fun e w'' => e = .returned (.tuple #[.agg (B D), .int .i64 oE]) ∧ Below w'.heap.size w' w'') := fun w' hl => by rw [hoE, hD]; exact digest_any k a b c d w' h hl
  have HGr : Hid (∀ w', Calls Tryd.prog 10 #[.agg (B (nd k a b c d))] w' fun e w'' => e = .returned (.tuple #[.agg (B D), .int .i64 oE]) ∧ Below w'.heap.size w' w'') := fun w' => by rw [hoE, hD]; exact refDigest_any k a b c d w' h
  have HE : Hid (∀ w', Calls Tryd.prog 11 #[.agg (B (nd k a b c d))] w' fun e w'' => ∃ v sp, e = .returned (.tuple #[v, .int .i64 oE]) ∧ Own w'.heap.size w'' v (txN k a b c d) sp ∧ Below w'.heap.size w' w'') := fun w' => by rw [hoE]; exact encode_any k a b c d w' h
  have HEr : Hid (∀ w', Calls Tryd.prog 12 #[.agg (B (nd k a b c d))] w' fun e w'' => ∃ v sp, e = .returned (.tuple #[v, .int .i64 oE]) ∧ Own w'.heap.size w'' v (txN k a b c d) sp ∧ Below w'.heap.size w' w'') := fun w' => by rw [hoE]; exact refEncode_any k a b c d w' h
  obtain ⟨k2, a2, b2, c2, d2, hn2, h2⟩ := dc_nd zs hby
  obtain ⟨M, hM⟩ : ∃ M, M = nd k2 a2 b2 c2 d2 := ⟨_, rfl⟩
  obtain ⟨dE, hdE⟩ : ∃ x, x = dcE zs := ⟨_, rfl⟩
  have HDl : Hid (∀ w' x, Reads w' x zs → Calls Tryd.prog 13 #[x] w' fun e w'' => e = .returned (.tuple #[.agg (B M), .int .i64 dE]) ∧ Below w'.heap.size w' w'') := fun w' x hx => by rw [hM, ← hn2, hdE]; exact decode_any x zs w' hx
  have HDr : Hid (∀ w' x, Reads w' x zs → Calls Tryd.prog 14 #[x] w' fun e w'' => e = .returned (.tuple #[.agg (B M), .int .i64 dE]) ∧ Below w'.heap.size w' w'') := fun w' x hx => by rw [hM, ← hn2, hdE]; exact refDecode_any x zs w' hx
  have HF2 := hidden h2.facts
  have HNz2 : Hid ((B (List.replicate 129 0)).size = (B (nd k2 a2 b2 c2 d2)).size) := by show _ = _; rw [h2.size]; rfl
  have hEqM : ∀ w, (Op.equalIn 10000 27 (.agg (B (nd k2 a2 b2 c2 d2))) (.agg (B (nd k2 a2 b2 c2 d2)))).run Tryd.prog w = .ok true w := fun w => by have := node_eq h2 h2 w; simpa using this
  rw [← hM] at HF2 HNz2 hEqM
  have hEqD : ∀ w, (Op.equalIn 10000 25 (.agg (B D)) (.agg (B D))).run Tryd.prog w = .ok true w := fun w => by have := hash_eq D D hDl hDl w; simpa using this
  have HDs : Hid ((Tryd.prog.info? 25).map (·.size) = some (B D).size) := by show _ = _; rw [B_size, hDl]; exact sz_hash
  have HDs2 : Hid ((Tryd.prog.info? 25).map (·.size) = some (B D).toList.length) := by show _ = _; rw [Array.length_toList, B_size, hDl]; exact sz_hash
  have HDz : Hid ((B (List.replicate 32 0)).size = (B D).size) := by show _ = _; rw [B_size, B_size, hDl]; rfl
  obtain ⟨N, hN⟩ : ∃ N, N = nd k a b c d := ⟨_, rfl⟩
  obtain ⟨X, hX⟩ : ∃ X, X = txN k a b c d := ⟨_, rfl⟩
  have HSm : Hid (∀ w' x y, Reads w' x X → Reads w' y X → Calls Tryd.prog 17 #[x, y] w' fun e w'' => e = .returned (.bool true) ∧ w'' = w') := by
    intro w' x y hx hy
    have := same_any x y X X w' hx hy
    simpa using this
  rw [← hN] at HC HCr HG HGr HE HEr HF ⊢
  rw [← hX] at HE HEr
  obtain ⟨va, vc, rfl, _, _, _, _⟩ := hv
  clear h hu hL hby hlz hD hoE hDl hn2 h2 hM hdE hN hX
  have hwe : ∀ x : Int, (x != x) = false := fun x => by simp
  go_enter Tryd.func3, Tryd.ntmps3
  go_wp2_with (first
    | ((with_reducible refine at_bxd 2 ?_); refine wpList_bx _ rfl _ _ rfl _ rfl ?_; intro x1 g2 hg1 hl1 bq1 q1; replace KV := hidden (KV.out.step q1); replace KW := hidden (KW.out.step q1); replace KL := hidden (KL.out.step q1); have KN := hidden bq1.kp; clear hg1 hl1 bq1 q1)
    | ((with_reducible refine at_ldd 23 2 ?_); refine wpList_lds _ rfl _ _ rfl g2 _ _ rfl KN.out.now HU.out HF.out.ln ?_)
    | ((with_reducible refine at_ald 6 ?_); refine wpList_al _ rfl _ rfl _ zero_hash ?_; intro x4 g6 hg6 hl4 bq4 q4; clear hl4)
    | ((with_reducible refine at_st 6 ?_); refine wpList_sto _ rfl _ _ _ rfl g6 _ (B D) rfl rfl bq4 HDs.out HDz.out (B_one _) ?_; intro x5 by5 r5; have q5 := below_row q4 r5 hg6; replace KV := hidden (KV.out.step q5); replace KW := hidden (KW.out.step q5); replace KL := hidden (KL.out.step q5); replace KN := hidden (KN.out.step q5); replace KR := hidden (KR.out.step q5); have K6 := hidden by5.kp; clear q5 q4 r5 by5 bq4 hg6)
    | ((with_reducible refine at_ldd 28 2 ?_); refine wpList_lds _ rfl _ _ rfl g2 _ _ rfl KN.out.now HU.out HF.out.ln ?_)
    | ((with_reducible refine at_ald 8 ?_); refine wpList_al _ rfl _ rfl _ zero_hash ?_; intro x7 g8 hg8 hl7 bq7 q7; clear hl7)
    | ((with_reducible refine at_st 8 ?_); refine wpList_sto _ rfl _ _ _ rfl g8 _ (B D) rfl rfl bq7 HDs.out HDz.out (B_one _) ?_; intro x8 by8 r8; have q8 := below_row q7 r8 hg8; replace KV := hidden (KV.out.step q8); replace KW := hidden (KW.out.step q8); replace KL := hidden (KL.out.step q8); replace KN := hidden (KN.out.step q8); replace KR := hidden (KR.out.step q8); replace K6 := hidden (K6.out.step q8); have K8 := hidden by8.kp; clear q8 q7 r8 by8 bq7 hg8)
    | ((with_reducible refine at_ldd 33 2 ?_); refine wpList_lds _ rfl _ _ rfl g2 _ _ rfl KN.out.now HU.out HF.out.ln ?_)
    | ((with_reducible refine at_ldd 38 2 ?_); refine wpList_lds _ rfl _ _ rfl g2 _ _ rfl KN.out.now HU.out HF.out.ln ?_)
    | ((with_reducible refine at_ldd 43 2 ?_); refine wpList_lds _ rfl _ _ rfl g2 _ _ rfl KN.out.now HU.out HF.out.ln ?_)
    | ((with_reducible refine at_ald 16 ?_); refine wpList_al _ rfl _ rfl _ zero_node ?_; intro x13 g16 hg16 hl13 bq13 q13; clear hl13)
    | ((with_reducible refine at_st 16 ?_); refine wpList_sto _ rfl _ _ _ rfl g16 _ (B M) rfl rfl bq13 HF2.out.ln HNz2.out (B_one _) ?_; intro x14 by14 r14; have q14 := below_row q13 r14 hg16; replace KV := hidden (KV.out.step q14); replace KW := hidden (KW.out.step q14); replace KL := hidden (KL.out.step q14); replace KN := hidden (KN.out.step q14); replace KR := hidden (KR.out.step q14); replace K6 := hidden (K6.out.step q14); replace K8 := hidden (K8.out.step q14); replace KT := hidden (KT.out.step q14); replace KT2 := hidden (KT2.out.step q14); replace KU := hidden (KU.out.step q14); have K16 := hidden by14.kp; clear q14 q13 r14 by14 bq13 hg16)
    | ((with_reducible refine at_ald 18 ?_); refine wpList_al _ rfl _ rfl _ zero_node ?_; intro x16 g18 hg18 hl16 bq16 q16; clear hl16)
    | ((with_reducible refine at_st 18 ?_); refine wpList_sto _ rfl _ _ _ rfl g18 _ (B M) rfl rfl bq16 HF2.out.ln HNz2.out (B_one _) ?_; intro x17 by17 r17; have q17 := below_row q16 r17 hg18; replace KV := hidden (KV.out.step q17); replace KW := hidden (KW.out.step q17); replace KL := hidden (KL.out.step q17); replace KN := hidden (KN.out.step q17); replace KR := hidden (KR.out.step q17); replace K6 := hidden (K6.out.step q17); replace K8 := hidden (K8.out.step q17); replace KT := hidden (KT.out.step q17); replace KT2 := hidden (KT2.out.step q17); replace KU := hidden (KU.out.step q17); replace K16 := hidden (K16.out.step q17); have K18 := hidden by17.kp; clear q17 q16 r17 by17 bq16 hg18)
    | (go_at_call 14; refine (HDr.out _ _ KV.out.now).mono ?_; rintro e x15 ⟨rfl, q15⟩; replace KV := hidden (KV.out.step q15); replace KW := hidden (KW.out.step q15); replace KL := hidden (KL.out.step q15); replace KN := hidden (KN.out.step q15); replace KR := hidden (KR.out.step q15); replace K6 := hidden (K6.out.step q15); replace K8 := hidden (K8.out.step q15); replace KT := hidden (KT.out.step q15); replace KT2 := hidden (KT2.out.step q15); replace KU := hidden (KU.out.step q15); replace K16 := hidden (K16.out.step q15); have mk_frootcellarref05Decode_1 : Hid True := trivial; clear q15)
    | (go_at_call 13; refine (HDl.out _ _ (row_reads KR.out.now HBY.out)).mono ?_; rintro e x12 ⟨rfl, q12⟩; replace KV := hidden (KV.out.step q12); replace KW := hidden (KW.out.step q12); replace KL := hidden (KL.out.step q12); replace KN := hidden (KN.out.step q12); replace KR := hidden (KR.out.step q12); replace K6 := hidden (K6.out.step q12); replace K8 := hidden (K8.out.step q12); replace KT := hidden (KT.out.step q12); replace KT2 := hidden (KT2.out.step q12); replace KU := hidden (KU.out.step q12); have mk_fnodeDecode_1 : Hid True := trivial; clear q12)
    | (go_at_call 12; refine (HEr.out _).mono ?_; rintro e x11 ⟨u, su, rfl, hO, q11⟩; replace KV := hidden (KV.out.step q11); replace KW := hidden (KW.out.step q11); replace KL := hidden (KL.out.step q11); replace KN := hidden (KN.out.step q11); replace KR := hidden (KR.out.step q11); replace K6 := hidden (K6.out.step q11); replace K8 := hidden (K8.out.step q11); replace KT := hidden (KT.out.step q11); replace KT2 := hidden (KT2.out.step q11); have KU := hidden hO.reads.kp; obtain ⟨ua, uc, rfl⟩ := hO.slice; clear hO; have mk_frootcellarref05Encode_1 : Hid True := trivial; clear q11)
    | (go_at_call 11; have mk := mk_fnodeEncode_1; clear mk; have z1 := KR.out.now.lt; have z2 := KT.out.now.lt; refine (HE.out _).mono ?_; rintro e x10 ⟨t2, sp2, rfl, hO, q10⟩; replace KV := hidden (KV.out.step q10); replace KW := hidden (KW.out.step q10); replace KL := hidden (KL.out.step q10); replace KN := hidden (KN.out.step q10); replace KR := hidden (KR.out.step q10); replace K6 := hidden (K6.out.step q10); replace K8 := hidden (K8.out.step q10); replace KT := hidden (KT.out.step q10); have KT2 := hidden hO.kp; have HT2 : Hid (∀ k, t2.ownBlock = some k → gl < k ∧ ∀ j, (Value.slice ta X.length tc).ownBlock = some j → j < k) := fun k hk => ⟨Nat.lt_of_lt_of_le z1 (hO.lt k hk).1, fun j hj => Nat.lt_of_lt_of_le (z2 j hj).2 (hO.lt k hk).1⟩; clear z1 z2; obtain ⟨ta2, tc2, rfl⟩ := hO.slice; clear hO; have mk_fnodeEncode_2 : Hid True := trivial; clear q10)
    | (go_at_call 11; have z1 := KR.out.now.lt; refine (HE.out _).mono ?_; rintro e x9 ⟨t, sp, rfl, hO, q9⟩; replace KV := hidden (KV.out.step q9); replace KW := hidden (KW.out.step q9); replace KL := hidden (KL.out.step q9); replace KN := hidden (KN.out.step q9); replace KR := hidden (KR.out.step q9); replace K6 := hidden (K6.out.step q9); replace K8 := hidden (K8.out.step q9); have KT := hidden hO.kp; have HT : Hid (∀ k, t.ownBlock = some k → gl < k) := fun k hk => Nat.lt_of_lt_of_le z1 (hO.lt k hk).1; clear z1; obtain ⟨ta, tc, rfl⟩ := hO.slice; clear hO; have mk_fnodeEncode_1 : Hid True := trivial; clear q9)
    | (go_at_call 10; refine (HGr.out _).mono ?_; rintro e x6 ⟨rfl, q6⟩; replace KV := hidden (KV.out.step q6); replace KW := hidden (KW.out.step q6); replace KL := hidden (KL.out.step q6); replace KN := hidden (KN.out.step q6); replace KR := hidden (KR.out.step q6); replace K6 := hidden (K6.out.step q6); have mk_frootcellarref05Digest_1 : Hid True := trivial; clear q6)
    | (go_at_call 9; refine (HG.out _ KL.out.now).mono ?_; rintro e x3 ⟨rfl, q3⟩; replace KV := hidden (KV.out.step q3); replace KW := hidden (KW.out.step q3); replace KL := hidden (KL.out.step q3); replace KN := hidden (KN.out.step q3); replace KR := hidden (KR.out.step q3); have mk_fnodeDigest_1 : Hid True := trivial; clear q3)
    | (go_at_call 8; refine (HLE.out _ KV.out.now).mono ?_; rintro e x2 ⟨gl, rfl, hgl, hrow, q2⟩; replace KV := hidden (KV.out.step q2); replace KW := hidden (KW.out.step q2); replace KL := hidden (KL.out.step q2); replace KN := hidden (KN.out.step q2); have KR := hidden (row_kp hrow); clear hrow hgl; have mk_frootcellarkitLentBytes_1 : Hid True := trivial; clear q2))
  have HS : Hid (∀ w', Below x17.heap.size x17 w' → w'.rangeAt g2 0 (B N).toList ∧ w'.rangeAt g6 0 (B D).toList ∧ w'.rangeAt g8 0 (B D).toList ∧ w'.rangeAt g16 0 (B M).toList ∧ w'.rangeAt g18 0 (B M).toList) := fun w' hw' => ⟨(KN.out w' hw').range, (K6.out w' hw').range, (K8.out w' hw').range, (K16.out w' hw').range, (K18.out w' hw').range⟩
  have d0 : Below x17.heap.size x17 x17.drew := (Below.refl _ _).drew
  refine wp_region_held_drew (S := fun w' => w'.rangeAt g2 0 (B N).toList ∧ w'.rangeAt g6 0 (B D).toList ∧ w'.rangeAt g8 0 (B D).toList ∧ w'.rangeAt g16 0 (B M).toList ∧ w'.rangeAt g18 0 (B M).toList) (by kernel_rfl) (HS.out _ d0) (fun hHeld => ?_)
  refine wpAnyH_take (i := 0) (v := .agg (B N)) rfl (by kernel_rfl) (by kernel_rfl) (by kernel_rfl) (fun _ _ _ h => h) (yieldsIf_load_mid rfl 27 (.tmp 2) rfl g2 0 rfl (B N).toList _ (fun w hS => hS.1) HU.out rfl HF.out.ll) hHeld ?_
  simp only [Act.put, List.getElem_toArray, List.getElem_cons_zero, List.setIfInBounds_toArray, List.set_cons_zero, List.set_cons_succ]
  refine wpAnyH_take (i := 2) (v := .agg (B N)) rfl (by kernel_rfl) (by kernel_rfl) (by kernel_rfl) (fun _ _ _ h => h) (yieldsIf_load_mid rfl 27 (.tmp 2) rfl g2 0 rfl (B N).toList _ (fun w hS => hS.1) HU.out rfl HF.out.ll) hHeld ?_
  simp only [Act.put, List.getElem_toArray, List.getElem_cons_zero, List.getElem_cons_succ, List.setIfInBounds_toArray, List.set_cons_zero, List.set_cons_succ]
  refine wpAnyH_ready (rs := [1]) (by kernel_rfl) (by simp) ?_
  refine AllReadyH.cons rfl (fun KQ hK => ?_) AllReadyH.nil
  go_simp
  refine (HC.out _).mono ?_
  rintro e y1 ⟨rfl, a1⟩
  have d1 := grow_trans d0 a1
  refine hK.out _ _ (HS.out _ d1) (fun hHeld => ?_)
  clear hK KQ
  refine wpAnyH_ready (rs := [3]) (by kernel_rfl) (by simp) ?_
  refine AllReadyH.cons rfl (fun KQ hK => ?_) AllReadyH.nil
  go_simp
  refine (HCr.out _).mono ?_
  rintro e y2 ⟨rfl, a2⟩
  have d2 := grow_trans d1 a2
  refine hK.out _ _ (HS.out _ d2) (fun hHeld => ?_)
  clear hK KQ
  refine wpAnyH_take (i := 4) (v := .bool false) rfl (by kernel_rfl) (by kernel_rfl) (by kernel_rfl) (fun _ _ _ h => h) (Or.inl ⟨by rfl, fun w hS => by go_simp⟩) hHeld ?_
  simp only [Act.put, List.getElem_toArray, List.getElem_cons_zero, List.getElem_cons_succ, List.setIfInBounds_toArray, List.set_cons_zero, List.set_cons_succ]
  refine wpAnyH_take (i := 5) (v := .bool false) rfl (by kernel_rfl) (by kernel_rfl) (by kernel_rfl) (fun _ _ _ h => h) (Or.inl ⟨by rfl, fun w hS => by go_simp⟩) hHeld ?_
  simp only [Act.put, List.getElem_toArray, List.getElem_cons_zero, List.getElem_cons_succ, List.setIfInBounds_toArray, List.set_cons_zero, List.set_cons_succ]
  refine wpAnyH_take (i := 6) (v := .agg (B D)) rfl (by kernel_rfl) (by kernel_rfl) (by kernel_rfl) (fun _ _ _ h => h) (yieldsIf_load_mid rfl 25 (.tmp 6) rfl g6 0 rfl (B D).toList _ (fun w hS => hS.2.1) Tryd.underlying25 rfl HDs2.out) hHeld ?_
  simp only [Act.put, List.getElem_toArray, List.getElem_cons_zero, List.getElem_cons_succ, List.setIfInBounds_toArray, List.set_cons_zero, List.set_cons_succ]
  refine wpAnyH_take (i := 7) (v := .agg (B D)) rfl (by kernel_rfl) (by kernel_rfl) (by kernel_rfl) (fun _ _ _ h => h) (yieldsIf_load_mid rfl 25 (.tmp 8) rfl g8 0 rfl (B D).toList _ (fun w hS => hS.2.2.1) Tryd.underlying25 rfl HDs2.out) hHeld ?_
  simp only [Act.put, List.getElem_toArray, List.getElem_cons_zero, List.getElem_cons_succ, List.setIfInBounds_toArray, List.set_cons_zero, List.set_cons_succ]
  refine wpAnyH_take (i := 8) (v := .bool false) rfl (by kernel_rfl) (by kernel_rfl) (by kernel_rfl) (fun _ _ _ h => h) (Or.inl ⟨by rfl, fun w hS => by go_simp⟩) hHeld ?_
  simp only [Act.put, List.getElem_toArray, List.getElem_cons_zero, List.getElem_cons_succ, List.setIfInBounds_toArray, List.set_cons_zero, List.set_cons_succ]
  refine wpAnyH_take (i := 9) (v := .bool false) rfl (by kernel_rfl) (by kernel_rfl) (by kernel_rfl) (fun _ _ _ h => h) (Or.inl ⟨by rfl, fun w hS => by go_simp⟩) hHeld ?_
  simp only [Act.put, List.getElem_toArray, List.getElem_cons_zero, List.getElem_cons_succ, List.setIfInBounds_toArray, List.set_cons_zero, List.set_cons_succ]
  refine wpAnyH_take (i := 10) (v := .bool false) rfl (by kernel_rfl) (by kernel_rfl) (by kernel_rfl) (fun _ _ _ h => h) (Or.inl ⟨by rfl, fun w hS => by go_simp⟩) hHeld ?_
  simp only [Act.put, List.getElem_toArray, List.getElem_cons_zero, List.getElem_cons_succ, List.setIfInBounds_toArray, List.set_cons_zero, List.set_cons_succ]
  refine wpAnyH_take (i := 11) (v := .int .i64 oE) rfl (by kernel_rfl) (by kernel_rfl) (by kernel_rfl) (fun _ _ _ h => h) (Or.inl ⟨by rfl, fun w hS => by go_simp⟩) hHeld ?_
  simp only [Act.put, List.getElem_toArray, List.getElem_cons_zero, List.getElem_cons_succ, List.setIfInBounds_toArray, List.set_cons_zero, List.set_cons_succ]
  refine wpAnyH_take (i := 12) (v := .int .i64 oE) rfl (by kernel_rfl) (by kernel_rfl) (by kernel_rfl) (fun _ _ _ h => h) (Or.inl ⟨by rfl, fun w hS => by go_simp⟩) hHeld ?_
  simp only [Act.put, List.getElem_toArray, List.getElem_cons_zero, List.getElem_cons_succ, List.setIfInBounds_toArray, List.set_cons_zero, List.set_cons_succ]
  refine wpAnyH_take (i := 13) (v := .bool false) rfl (by kernel_rfl) (by kernel_rfl) (by kernel_rfl) (fun _ _ _ h => h) (Or.inl ⟨by rfl, fun w hS => by go_simp⟩) hHeld ?_
  simp only [Act.put, List.getElem_toArray, List.getElem_cons_zero, List.getElem_cons_succ, List.setIfInBounds_toArray, List.set_cons_zero, List.set_cons_succ]
  refine wpAnyH_take (i := 14) (v := .bool false) rfl (by kernel_rfl) (by kernel_rfl) (by kernel_rfl) (fun _ _ _ h => h) (Or.inl ⟨by rfl, fun w hS => by go_simp⟩) hHeld ?_
  simp only [Act.put, List.getElem_toArray, List.getElem_cons_zero, List.getElem_cons_succ, List.setIfInBounds_toArray, List.set_cons_zero, List.set_cons_succ]
  refine wpAnyH_take (i := 15) (v := .bool false) rfl (by kernel_rfl) (by kernel_rfl) (by kernel_rfl) (fun _ _ _ h => h) (Or.inl ⟨by rfl, fun w hS => by go_simp⟩) hHeld ?_
  simp only [Act.put, List.getElem_toArray, List.getElem_cons_zero, List.getElem_cons_succ, List.setIfInBounds_toArray, List.set_cons_zero, List.set_cons_succ]
  refine wpAnyH_take (i := 16) (v := .slice ta X.length tc) rfl (by kernel_rfl) (by kernel_rfl) (by kernel_rfl) (fun _ _ _ h => h) (Or.inl ⟨by rfl, fun w hS => by go_simp⟩) hHeld ?_
  simp only [Act.put, List.getElem_toArray, List.getElem_cons_zero, List.getElem_cons_succ, List.setIfInBounds_toArray, List.set_cons_zero, List.set_cons_succ]
  refine wpAnyH_take (i := 17) (v := .slice ua X.length uc) rfl (by kernel_rfl) (by kernel_rfl) (by kernel_rfl) (fun _ _ _ h => h) (Or.inl ⟨by rfl, fun w hS => by go_simp⟩) hHeld ?_
  simp only [Act.put, List.getElem_toArray, List.getElem_cons_zero, List.getElem_cons_succ, List.setIfInBounds_toArray, List.set_cons_zero, List.set_cons_succ]
  refine wpAnyH_ready (rs := [18]) (by kernel_rfl) (by simp) ?_
  refine AllReadyH.cons rfl (fun KQ hK => ?_) AllReadyH.nil
  go_simp
  refine (HSm.out _ _ _ (KT.out _ d2).reads (KU.out _ d2)).mono ?_
  rintro e y3 ⟨rfl, hy3⟩
  rw [hy3]
  clear hy3 y3
  refine hK.out _ _ (HS.out _ d2) (fun hHeld => ?_)
  clear hK KQ
  refine wpAnyH_take (i := 19) (v := .bool false) rfl (by kernel_rfl) (by kernel_rfl) (by kernel_rfl) (fun _ _ _ h => h) (Or.inl ⟨by rfl, fun w hS => by go_simp⟩) hHeld ?_
  simp only [Act.put, List.getElem_toArray, List.getElem_cons_zero, List.getElem_cons_succ, List.setIfInBounds_toArray, List.set_cons_zero, List.set_cons_succ]
  refine wpAnyH_take (i := 20) (v := .bool false) rfl (by kernel_rfl) (by kernel_rfl) (by kernel_rfl) (fun _ _ _ h => h) (Or.inl ⟨by rfl, fun w hS => by go_simp⟩) hHeld ?_
  simp only [Act.put, List.getElem_toArray, List.getElem_cons_zero, List.getElem_cons_succ, List.setIfInBounds_toArray, List.set_cons_zero, List.set_cons_succ]
  refine wpAnyH_take (i := 21) (v := .bool false) rfl (by kernel_rfl) (by kernel_rfl) (by kernel_rfl) (fun _ _ _ h => h) (Or.inl ⟨by rfl, fun w hS => by go_simp⟩) hHeld ?_
  simp only [Act.put, List.getElem_toArray, List.getElem_cons_zero, List.getElem_cons_succ, List.setIfInBounds_toArray, List.set_cons_zero, List.set_cons_succ]
  refine wpAnyH_take (i := 22) (v := .slice ta2 X.length tc2) rfl (by kernel_rfl) (by kernel_rfl) (by kernel_rfl) (fun _ _ _ h => h) (Or.inl ⟨by rfl, fun w hS => by go_simp⟩) hHeld ?_
  simp only [Act.put, List.getElem_toArray, List.getElem_cons_zero, List.getElem_cons_succ, List.setIfInBounds_toArray, List.set_cons_zero, List.set_cons_succ]
  refine wpAnyH_take (i := 23) (v := .slice ua X.length uc) rfl (by kernel_rfl) (by kernel_rfl) (by kernel_rfl) (fun _ _ _ h => h) (Or.inl ⟨by rfl, fun w hS => by go_simp⟩) hHeld ?_
  simp only [Act.put, List.getElem_toArray, List.getElem_cons_zero, List.getElem_cons_succ, List.setIfInBounds_toArray, List.set_cons_zero, List.set_cons_succ]
  refine wpAnyH_ready (rs := [24]) (by kernel_rfl) (by simp) ?_
  refine AllReadyH.cons rfl (fun KQ hK => ?_) AllReadyH.nil
  go_simp
  refine (HSm.out _ _ _ (KT2.out _ d2).reads (KU.out _ d2)).mono ?_
  rintro e y3 ⟨rfl, hy3⟩
  rw [hy3]
  clear hy3 y3
  refine hK.out _ _ (HS.out _ d2) (fun hHeld => ?_)
  clear hK KQ
  refine wpAnyH_take (i := 25) (v := .bool false) rfl (by kernel_rfl) (by kernel_rfl) (by kernel_rfl) (fun _ _ _ h => h) (Or.inl ⟨by rfl, fun w hS => by go_simp⟩) hHeld ?_
  simp only [Act.put, List.getElem_toArray, List.getElem_cons_zero, List.getElem_cons_succ, List.setIfInBounds_toArray, List.set_cons_zero, List.set_cons_succ]
  refine wpAnyH_take (i := 26) (v := .bool false) rfl (by kernel_rfl) (by kernel_rfl) (by kernel_rfl) (fun _ _ _ h => h) (Or.inl ⟨by rfl, fun w hS => by go_simp⟩) hHeld ?_
  simp only [Act.put, List.getElem_toArray, List.getElem_cons_zero, List.getElem_cons_succ, List.setIfInBounds_toArray, List.set_cons_zero, List.set_cons_succ]
  refine wpAnyH_take (i := 27) (v := .bool false) rfl (by kernel_rfl) (by kernel_rfl) (by kernel_rfl) (fun _ _ _ h => h) (Or.inl ⟨by rfl, fun w hS => by go_simp⟩) hHeld ?_
  simp only [Act.put, List.getElem_toArray, List.getElem_cons_zero, List.getElem_cons_succ, List.setIfInBounds_toArray, List.set_cons_zero, List.set_cons_succ]
  refine wpAnyH_take (i := 28) (v := .int .i64 oE) rfl (by kernel_rfl) (by kernel_rfl) (by kernel_rfl) (fun _ _ _ h => h) (Or.inl ⟨by rfl, fun w hS => by go_simp⟩) hHeld ?_
  simp only [Act.put, List.getElem_toArray, List.getElem_cons_zero, List.getElem_cons_succ, List.setIfInBounds_toArray, List.set_cons_zero, List.set_cons_succ]
  refine wpAnyH_take (i := 29) (v := .int .i64 oE) rfl (by kernel_rfl) (by kernel_rfl) (by kernel_rfl) (fun _ _ _ h => h) (Or.inl ⟨by rfl, fun w hS => by go_simp⟩) hHeld ?_
  simp only [Act.put, List.getElem_toArray, List.getElem_cons_zero, List.getElem_cons_succ, List.setIfInBounds_toArray, List.set_cons_zero, List.set_cons_succ]
  refine wpAnyH_take (i := 30) (v := .bool false) rfl (by kernel_rfl) (by kernel_rfl) (by kernel_rfl) (fun _ _ _ h => h) (Or.inl ⟨by rfl, fun w hS => by go_simp⟩) hHeld ?_
  simp only [Act.put, List.getElem_toArray, List.getElem_cons_zero, List.getElem_cons_succ, List.setIfInBounds_toArray, List.set_cons_zero, List.set_cons_succ]
  refine wpAnyH_take (i := 31) (v := .bool false) rfl (by kernel_rfl) (by kernel_rfl) (by kernel_rfl) (fun _ _ _ h => h) (Or.inl ⟨by rfl, fun w hS => by go_simp⟩) hHeld ?_
  simp only [Act.put, List.getElem_toArray, List.getElem_cons_zero, List.getElem_cons_succ, List.setIfInBounds_toArray, List.set_cons_zero, List.set_cons_succ]
  refine wpAnyH_take (i := 32) (v := .bool false) rfl (by kernel_rfl) (by kernel_rfl) (by kernel_rfl) (fun _ _ _ h => h) (Or.inl ⟨by rfl, fun w hS => by go_simp⟩) hHeld ?_
  simp only [Act.put, List.getElem_toArray, List.getElem_cons_zero, List.getElem_cons_succ, List.setIfInBounds_toArray, List.set_cons_zero, List.set_cons_succ]
  refine wpAnyH_take (i := 33) (v := .int .i64 oE) rfl (by kernel_rfl) (by kernel_rfl) (by kernel_rfl) (fun _ _ _ h => h) (Or.inl ⟨by rfl, fun w hS => by go_simp⟩) hHeld ?_
  simp only [Act.put, List.getElem_toArray, List.getElem_cons_zero, List.getElem_cons_succ, List.setIfInBounds_toArray, List.set_cons_zero, List.set_cons_succ]
  refine wpAnyH_take (i := 34) (v := .int .i64 oE) rfl (by kernel_rfl) (by kernel_rfl) (by kernel_rfl) (fun _ _ _ h => h) (Or.inl ⟨by rfl, fun w hS => by go_simp⟩) hHeld ?_
  simp only [Act.put, List.getElem_toArray, List.getElem_cons_zero, List.getElem_cons_succ, List.setIfInBounds_toArray, List.set_cons_zero, List.set_cons_succ]
  refine wpAnyH_take (i := 35) (v := .bool false) rfl (by kernel_rfl) (by kernel_rfl) (by kernel_rfl) (fun _ _ _ h => h) (Or.inl ⟨by rfl, fun w hS => by go_simp⟩) hHeld ?_
  simp only [Act.put, List.getElem_toArray, List.getElem_cons_zero, List.getElem_cons_succ, List.setIfInBounds_toArray, List.set_cons_zero, List.set_cons_succ]
  refine wpAnyH_take (i := 36) (v := .bool false) rfl (by kernel_rfl) (by kernel_rfl) (by kernel_rfl) (fun _ _ _ h => h) (Or.inl ⟨by rfl, fun w hS => by go_simp⟩) hHeld ?_
  simp only [Act.put, List.getElem_toArray, List.getElem_cons_zero, List.getElem_cons_succ, List.setIfInBounds_toArray, List.set_cons_zero, List.set_cons_succ]
  refine wpAnyH_take (i := 37) (v := .bool false) rfl (by kernel_rfl) (by kernel_rfl) (by kernel_rfl) (fun _ _ _ h => h) (Or.inl ⟨by rfl, fun w hS => by go_simp⟩) hHeld ?_
  simp only [Act.put, List.getElem_toArray, List.getElem_cons_zero, List.getElem_cons_succ, List.setIfInBounds_toArray, List.set_cons_zero, List.set_cons_succ]
  refine wpAnyH_take (i := 38) (v := .agg (B M)) rfl (by kernel_rfl) (by kernel_rfl) (by kernel_rfl) (fun _ _ _ h => h) (yieldsIf_load_mid rfl 27 (.tmp 16) rfl g16 0 rfl (B M).toList _ (fun w hS => hS.2.2.2.1) HU.out rfl HF2.out.ll) hHeld ?_
  simp only [Act.put, List.getElem_toArray, List.getElem_cons_zero, List.getElem_cons_succ, List.setIfInBounds_toArray, List.set_cons_zero, List.set_cons_succ]
  refine wpAnyH_take (i := 39) (v := .agg (B M)) rfl (by kernel_rfl) (by kernel_rfl) (by kernel_rfl) (fun _ _ _ h => h) (yieldsIf_load_mid rfl 27 (.tmp 18) rfl g18 0 rfl (B M).toList _ (fun w hS => hS.2.2.2.2) HU.out rfl HF2.out.ll) hHeld ?_
  simp only [Act.put, List.getElem_toArray, List.getElem_cons_zero, List.getElem_cons_succ, List.setIfInBounds_toArray, List.set_cons_zero, List.set_cons_succ]
  refine wpAnyH_take (i := 40) (v := .bool false) rfl (by kernel_rfl) (by kernel_rfl) (by kernel_rfl) (fun _ _ _ h => h) (Or.inl ⟨by rfl, fun w hS => by go_simp⟩) hHeld ?_
  simp only [Act.put, List.getElem_toArray, List.getElem_cons_zero, List.getElem_cons_succ, List.setIfInBounds_toArray, List.set_cons_zero, List.set_cons_succ]
  refine wpAnyH_take (i := 41) (v := .bool false) rfl (by kernel_rfl) (by kernel_rfl) (by kernel_rfl) (fun _ _ _ h => h) (Or.inl ⟨by rfl, fun w hS => by go_simp⟩) hHeld ?_
  simp only [Act.put, List.getElem_toArray, List.getElem_cons_zero, List.getElem_cons_succ, List.setIfInBounds_toArray, List.set_cons_zero, List.set_cons_succ]
  refine wpAnyH_take (i := 42) (v := .bool false) rfl (by kernel_rfl) (by kernel_rfl) (by kernel_rfl) (fun _ _ _ h => h) (Or.inl ⟨by rfl, fun w hS => by go_simp⟩) hHeld ?_
  simp only [Act.put, List.getElem_toArray, List.getElem_cons_zero, List.getElem_cons_succ, List.setIfInBounds_toArray, List.set_cons_zero, List.set_cons_succ]
  refine wpAnyH_take (i := 43) (v := .int .i64 dE) rfl (by kernel_rfl) (by kernel_rfl) (by kernel_rfl) (fun _ _ _ h => h) (Or.inl ⟨by rfl, fun w hS => by go_simp⟩) hHeld ?_
  simp only [Act.put, List.getElem_toArray, List.getElem_cons_zero, List.getElem_cons_succ, List.setIfInBounds_toArray, List.set_cons_zero, List.set_cons_succ]
  refine wpAnyH_take (i := 44) (v := .int .i64 dE) rfl (by kernel_rfl) (by kernel_rfl) (by kernel_rfl) (fun _ _ _ h => h) (Or.inl ⟨by rfl, fun w hS => by go_simp⟩) hHeld ?_
  simp only [Act.put, List.getElem_toArray, List.getElem_cons_zero, List.getElem_cons_succ, List.setIfInBounds_toArray, List.set_cons_zero, List.set_cons_succ]
  refine wpAnyH_take (i := 45) (v := .bool false) rfl (by kernel_rfl) (by kernel_rfl) (by kernel_rfl) (fun _ _ _ h => h) (Or.inl ⟨by rfl, fun w hS => by go_simp⟩) hHeld ?_
  simp only [Act.put, List.getElem_toArray, List.getElem_cons_zero, List.getElem_cons_succ, List.setIfInBounds_toArray, List.set_cons_zero, List.set_cons_succ]
  refine wpAnyH_take (i := 46) (v := .bool false) rfl (by kernel_rfl) (by kernel_rfl) (by kernel_rfl) (fun _ _ _ h => h) (Or.inl ⟨by rfl, fun w hS => by go_simp⟩) hHeld ?_
  simp only [Act.put, List.getElem_toArray, List.getElem_cons_zero, List.getElem_cons_succ, List.setIfInBounds_toArray, List.set_cons_zero, List.set_cons_succ]
  refine wpAnyH_done (by kernel_rfl) ?_ _
  replace KV := hidden (KV.out.step d2); replace KW := hidden (KW.out.step d2); replace KR := hidden (KR.out.step d2); replace KT := hidden (KT.out.step d2); replace KT2 := hidden (KT2.out.step d2)
  have HLS : Hid (∀ w', Row w' gl (zs ++ marks zs.length) → Own 0 w' (.slice ta X.length tc) X sp → Own 0 w' (.slice ta2 X.length tc2) X sp2 → ListsT 0 w'.heap.size 0 3 (fun i => [.slice ta X.length tc, .slice ta2 X.length tc2, .slice (some ⟨gl, 0, none⟩) zs.length (zs.length + 5)].getD i undef) (fun i => [X, X, zs].getD i []) (fun i => [sp, sp2, marks zs.length].getD i []) (w'.alloc (.cells #[.slice ta X.length tc, .slice ta2 X.length tc2, .slice (some ⟨gl, 0, none⟩) zs.length (zs.length + 5)] 28))) := by
    intro w' hrow o1 o2
    have h3 := Own.mk (base := 0) HBY.out (marks_bytes zs.length) (by rw [marks_length]; have := HLZ.out; simp only [maxLen]; omega) (Nat.zero_le _) hrow
    rw [marks_length] at h3
    refine lists_apT 0 w' [.slice ta X.length tc, .slice ta2 X.length tc2, .slice (some ⟨gl, 0, none⟩) zs.length (zs.length + 5)] _ _ 3 rfl ?_ ?_
    · intro i hi
      match i, hi with
      | 0, _ => exact o1.toT
      | 1, _ => exact o2.toT
      | 2, _ => exact h3.toT
    · have hgl : (Value.slice (some ⟨gl, 0, none⟩) zs.length (zs.length + 5)).ownBlock = some gl := rfl
      intro i j hi hj hne g e1 e2
      match i, j, hi, hj with
      | 0, 0, _, _ => omega
      | 1, 1, _, _ => omega
      | 2, 2, _, _ => omega
      | 0, 1, _, _ => have := (HT2.out g e2).2 g e1; omega
      | 1, 0, _, _ => have := (HT2.out g e1).2 g e2; omega
      | 0, 2, _, _ => have := HT.out g e1; have e3 : some gl = some g := e2; injection e3 with e3; omega
      | 2, 0, _, _ => have := HT.out g e2; have e3 : some gl = some g := e1; injection e3 with e3; omega
      | 1, 2, _, _ => have := (HT2.out g e1).1; have e3 : some gl = some g := e2; injection e3 with e3; omega
      | 2, 1, _, _ => have := (HT2.out g e2).1; have e3 : some gl = some g := e1; injection e3 with e3; omega
  clear HS d0 d1 d2 a1 a2 K6 K8 K16 K18 KN KU
  go_wp2_with (first
    | (go_at_call 18; refine (HKP.out _ _ KR.out.now KV.out.now).mono ?_; rintro e z1 ⟨rfl, q1⟩; replace KW := hidden (KW.out.step q1); replace KR := hidden (KR.out.step q1); replace KT := hidden (KT.out.step q1); replace KT2 := hidden (KT2.out.step q1); clear q1)
    | (go_at_call 19; refine (apart_walkT 0 _ 0 3 3 _ _ _ _ (by omega) (HLS.out _ KR.out.now (KT.out.now.later (Nat.zero_le _)) (KT2.out.now.later (Nat.zero_le _))) (Nat.le_refl _)).mono ?_; rintro e z2 ⟨rfl, q2⟩; replace KW := hidden (KW.out.step (grow_trans (grow_alloc _ _) q2)); clear q2))
  go_ret
  exact ⟨rfl, KW.out.now⟩

end Go.Proofs.YtjcklpdifanjlaaDoor
