/- KeptBytes, as a contract: what was lent and not turned is told so. -/
import Derived.Test.YtpihigcnoifcfaaGreatDoorVw05
import Derived.Deep.RegionHeld
import Derived.Test.YtpihigcnoifcfaaGreatDoorVw01
import Derived.Lib.MakeNoZero
namespace Go.Proofs.YtpihigcnoifcfaaGreatDoor
set_option maxRecDepth 20000
open Go.RowKit

theorem Row.reads {w : World} {g : Nat} {all : List Int} (h : Row w g all) (hb : Bytes all) (c : Nat) (hc : all.length ≤ c) : Reads w (.slice (some ⟨g, 0, none⟩) all.length c) all :=
  ⟨_, _, rfl, hc, fun h => by simp at h, hb, fun _ => ⟨g, 0, rfl, fun i hi => by rw [Nat.zero_add]; exact h.cell i hi⟩⟩

end Go.Proofs.YtpihigcnoifcfaaGreatDoor

/- octet.Join (bytes.Join with no separator), as a contract: all parts, one behind the other, in new memory. -/
namespace Go.Proofs.YtpihigcnoifcfaaGreatDoor
set_option maxRecDepth 20000
open Go.RowKit

/-- v is a slice of slices that reads as these lists of bytes. -/
def Parts (w : World) (v : Value) (ps : List (List Int)) : Prop :=
  ∃ (a : Option Addr) (cap : Nat) (V : Nat → Value), v = .slice a ps.length cap ∧ ps.length ≤ cap ∧ ps.length ≤ 140737488355328 ∧ (0 < ps.length → ∃ b off, a = some ⟨b, off, none⟩ ∧ ∀ i, i < ps.length → w.cell? ⟨b, off + i, none⟩ = some (V i)) ∧ ∀ i, i < ps.length → Reads w (V i) (ps.getD i [])

theorem digits_B : ∀ (n t : Nat) (acc : List Int), ∃ ds : List Int, ds.length = acc.length + n ∧ Extern.BytealgMakeNoZero.digits n t (B acc) = B ds
  | 0, _, acc => ⟨acc, rfl, rfl⟩
  | n + 1, t, acc => by
    obtain ⟨ds, h1, h2⟩ := digits_B n (t / 256) (acc ++ [((t % 256 : Nat) : Int)])
    refine ⟨ds, by simp at h1; omega, ?_⟩
    rw [Extern.BytealgMakeNoZero.digits, ← h2]
    congr 1
    simp [B]

theorem run_mnz (n : Nat) (w : World) (hn : n ≤ 281474976710656) : ∃ t, (Extern.BytealgMakeNoZero.makeNoZero #[3] #[26] #[.int .i64 n]).run Tryz.prog w =
    .ok (.slice (some ⟨w.heap.size, 0, none⟩) n (grownCap w n 0 5)) (w.drew.drew.alloc (.cells (Extern.BytealgMakeNoZero.digits (grownCap w n 0 5) t #[]) 5)) := by
  apply Exists.intro
  show Sem.run Tryz.prog (do
        let .slice elem ← underlying 26 | stuck _
        if (n : Int) < 0 || (n : Int) > 2 ^ 48 then runtimePanic _
        let cap ← choose (.appendCap (n : Int).toNat 0 elem)
        askRoom cap
        let bytes ← choose _
        let a ← newRow elem (Extern.BytealgMakeNoZero.digits cap bytes #[])
        pure (Value.slice (some a) (n : Int).toNat cap)) w = _
  have g1 : ¬ (n : Int) < 0 := by omega
  have g2 : ¬ (281474976710656 : Int) < (n : Int) := by omega
  simp [run_underlying u_bytes, g1, g2, Question.forced, newRow, grownCap]
  rfl

theorem call_mnz (n : Nat) (w : World) (hn : n ≤ 281474976710656) : ∃ ds : List Int, (callFunc 74 #[.int .i64 n]).run Tryz.prog w = .ok (.value (.slice (some ⟨w.heap.size, 0, none⟩) n ds.length)) ((w.alloc (.cells (B ds) 5)).drewN 2) ∧ n ≤ ds.length := by
  obtain ⟨t, ht⟩ := run_mnz n w hn
  obtain ⟨ds, h1, h2⟩ := digits_B (grownCap w n 0 5) t []
  have h2' : Extern.BytealgMakeNoZero.digits (grownCap w n 0 5) t #[] = B ds := h2
  simp only [List.length_nil, Nat.zero_add] at h1
  rw [h2', ← h1] at ht
  refine ⟨ds, ?_, ?_⟩
  · rw [run_callFunc_extern Tryz.func74 (by kernel_rfl) (by kernel_rfl) (by kernel_rfl) (e := Extern.BytealgMakeNoZero.makeNoZero #[3] #[26]) (by kernel_rfl), ht]
    rfl
  · rw [h1]
    exact grownCap_ge w n 0 _

/-- How many bytes the first k parts have. -/
def lens (ps : List (List Int)) (k : Nat) : Nat := ((ps.take k).flatten).length
theorem lens_succ (ps : List (List Int)) (k : Nat) (h : k < ps.length) : lens ps (k + 1) = lens ps k + (ps.getD k []).length := by
  unfold lens
  rw [List.take_succ_eq_append_getElem h, List.flatten_append, List.length_append]
  simp [List.getD, h]
theorem flat_succ (ps : List (List Int)) (k : Nat) (h : k < ps.length) : (ps.take (k + 1)).flatten = (ps.take k).flatten ++ ps.getD k [] := by
  rw [List.take_succ_eq_append_getElem h, List.flatten_append]
  simp [List.getD, h]
theorem lens_le (ps : List (List Int)) (k : Nat) : lens ps k ≤ ps.flatten.length := by
  unfold lens
  conv => rhs; rw [← List.take_append_drop k ps, List.flatten_append, List.length_append]
  omega
theorem lens_all (ps : List (List Int)) (k : Nat) (h : ps.length ≤ k) : lens ps k = ps.flatten.length := by
  unfold lens
  rw [List.take_of_length_le h]

set_option maxHeartbeats 1000000 in
theorem bjoin_none (a : Option Addr) (c : Nat) (w : World) :
    Calls Tryz.prog 55 #[.slice a 0 c, .slice none 0 0] w fun e w' => e = .returned (.slice (some ⟨w.heap.size, 0, none⟩) 0 0) ∧ w' = w.alloc (.cells #[] 5) := by
  go_enter Tryz.func55, Tryz.ntmps55
  go_wp2
  go_ret
  exact ⟨rfl, rfl⟩

/-- What Join leaves. -/
def JoinPost (zs : List Int) (w : World) (e : Ending) (w' : World) : Prop := ∃ u sp, e = .returned u ∧ Own w.heap.size w' u zs sp ∧ Below w.heap.size w w'

set_option maxHeartbeats 1000000 in
theorem bjoin_one (b off c : Nat) (v : Value) (zs : List Int) (w : World) (hc : w.cell? ⟨b, off, none⟩ = some v) (hr : Reads w v zs) (hl : zs.length ≤ 140737488355328) :
    Calls Tryz.prog 55 #[.slice (some ⟨b, off, none⟩) 1 c, .slice none 0 0] w (JoinPost zs w) := by
  have HR := hidden hr
  clear hr
  go_enter Tryz.func55, Tryz.ntmps55
  go_wp2_with (at_builtin; refine wpList_app _ rfl _ _ rfl w.heap.size _ _ [] [] zs (Own.nil _ _) HR.out rfl rfl (by simpa using hl) (Nat.le_refl _) ?_; intro v' w' sp' h1 h2 h3 h4)
  go_ret
  exact ⟨v', sp', rfl, by simpa using h1, (Below.refl _ _).grown h2 (Nat.le_refl _) (by intro k hk; simp [Value.ownBlock] at hk)⟩

set_option maxHeartbeats 2000000 in
theorem bjoin_many (b off n c T : Nat) (V : Nat → Value) (ps : List (List Int)) (w : World) (hn : ps.length = n) (h2 : 2 ≤ n) (hnl : n ≤ 140737488355328) (hnc : n ≤ c) (hT : ps.flatten.length = T) (hl : T ≤ 281474976710656)
    (hc : ∀ i, i < n → w.cell? ⟨b, off + i, none⟩ = some (V i)) (hr : ∀ i, i < n → Reads w (V i) (ps.getD i [])) :
    Calls Tryz.prog 55 #[.slice (some ⟨b, off, none⟩) n c, .slice none 0 0] w (JoinPost ps.flatten w) := by
  have n0 : ((n : Int) == 0) = false := beq_eq_false_iff_ne.2 (by omega)
  have n1 : ((n : Int) == 1) = false := beq_eq_false_iff_ne.2 (by omega)
  have HC := hidden hc
  have HR := hidden hr
  have HN := hidden hn
  have HT := hidden hT
  have hsl : ∀ i, i < n → ∃ a q, V i = .slice a (ps.getD i []).length q := by
    intro i hi
    obtain ⟨a, q, e, _⟩ := hr i hi
    exact ⟨a, q, e⟩
  have HSL := hidden hsl
  have HBY : Hid (Bytes ps.flatten) := by
    intro z hz
    obtain ⟨l, hl, hz⟩ := List.mem_flatten.1 hz
    obtain ⟨i, hi, rfl⟩ := List.getElem_of_mem hl
    obtain ⟨_, _, _, _, _, hb, _⟩ := hr i (by omega)
    refine hb z ?_
    simpa [List.getD, hi] using hz
  clear hc hr hn hT hsl
  go_enter Tryz.func55, Tryz.ntmps55
  go_wp2_with fail
  go_loop [5, 44] (fun s i => ∃ k : Nat, k ≤ n ∧ i = .int .i64 k ∧ s = .int .i64 (lens ps k)) (fun _ i => n - (intOf i).toNat)
  case atStart => exact ⟨0, Nat.zero_le _, rfl, rfl⟩
  case round =>
    obtain ⟨k, hk, rfl, rfl⟩ := hrel
    by_cases hlt : k < n
    · have hx := HC.out k hlt
      obtain ⟨a', q', hv⟩ := HSL.out k hlt
      rw [hv] at hx
      have hs := lens_succ ps k (by have := HN.out; omega)
      have hle := lens_le ps (k + 1)
      rw [HT.out] at hle
      generalize (ps.getD k []).length = L at *
      generalize hL2 : lens ps (k + 1) = L2 at *
      have HS := hidden hs
      have HL2 := hidden hL2
      clear hs hv hL2
      generalize hLk : lens ps k = L1 at *
      have HLk := hidden hLk
      have hsum : L1 + L ≤ 281474976710656 := by have := HS.out; omega
      clear hLk hle
      go_wp2
      exact ⟨⟨k + 1, by omega, by go_num, by rw [HL2.out, HS.out]; go_num⟩, by simp [intOf]; omega⟩
    · have hlk : lens ps k = T := by rw [lens_all ps k (by have := HN.out; omega), HT.out]
      simp only [hlk]
      clear hlk
      obtain ⟨ds, hcall, hge⟩ := call_mnz T w (by omega)
      have t0 : (0 : Int) ≤ (T : Int) := by omega
      have t1 : (T : Int) ≤ (ds.length : Int) := by omega
      have hb1 : Below w.heap.size w ((w.alloc (.cells (B ds) 5)).drewN 2) := below_drewN (grow_alloc w _) 2
      have hr1 : Row ((w.alloc (.cells (B ds) 5)).drewN 2) w.heap.size ds := heap_alloc_new w _
      have hx0 := HC.out 0 (by omega)
      have hx1 := (hb1.cell (p := ⟨b, off + 0, none⟩) (block_lt_of_cell hx0)).trans hx0
      rw [Nat.add_zero] at hx1
      have HR1 := hidden hr1
      have HB1 := hidden hb1
      have HR0 := hidden ((HR.out 0 (by omega)).grow hb1)
      have hL0 : (ps.getD 0 []).length ≤ T := by
        have h1 := lens_succ ps 0 (by have := HN.out; omega)
        have h2 := lens_le ps (0 + 1)
        rw [HT.out] at h2
        omega
      clear hr1 hx0 hb1
      go_wp2_with (refine wpList_cpw _ rfl _ _ rfl w.heap.size 0 T T (ps.getD 0 []).length ds (ps.getD 0 []) (V 0) HR1.out HR0.out rfl rfl (by omega) rfl hL0 ?_; intro w2 hr2 hg2 hs2)
      have hl1 : lens ps 1 = (ps.getD 0 []).length := by
        have h1 := lens_succ ps 0 (by have := HN.out; omega)
        simpa [lens] using h1
      have hf1 : (ps.take 1).flatten = ps.getD 0 [] := by
        have h1 := flat_succ ps 0 (by have := HN.out; omega)
        simpa using h1
      have HRow : Hid (Row w2 w.heap.size ((ps.take (0 + 1)).flatten ++ ds.drop (ps.getD 0 []).length)) := by
        rw [Nat.zero_add, hf1]
        show Row _ _ _
        simpa using hr2
      have HLen : Hid (lens ps (0 + 1) + (ds.drop (ps.getD 0 []).length).length = ds.length) := by
        show _ = _
        rw [Nat.zero_add, hl1, List.length_drop]
        omega
      have hb2 : Below w.heap.size w w2 := HB1.out.trans ((Below.refl _ _).grown hg2 (by simp) (by intro k hk; injection hk with hk; omega))
      have HE0 : Hid ((ps.getD 0 []).length = lens ps (0 + 1)) := by rw [Nat.zero_add]; exact hl1.symm
      clear hr2 hg2 hs2 HR1 HB1 HR0 hL0 hx1 hcall hl1 hf1
      go_wp2_with fail
      go_loopw [9, 72] (fun s i wr => ∃ (j : Nat) (rest : List Int), j ≤ n - 1 ∧ i = .int .i64 j ∧ s = .int .i64 (lens ps (j + 1)) ∧ Hid (Row wr w.heap.size ((ps.take (j + 1)).flatten ++ rest)) ∧ Hid (lens ps (j + 1) + rest.length = ds.length) ∧ Below w.heap.size w wr) (fun _ i _ => n - 1 - (intOf i).toNat)
      case atStart => exact ⟨0, _, by omega, rfl, congrArg (fun n : Nat => Value.int .i64 (n : Int)) HE0.out, HRow, HLen, hb2⟩
      case round =>
        obtain ⟨j, rest, hj, rfl, rfl, hRow, hLen, hb⟩ := hrel
        by_cases hjn : j < n - 1
        · have hx := HC.out (j + 1) (by omega)
          have hxr : wr.cell? ⟨b, off + 1 + j, none⟩ = some (V (j + 1)) := by
            rw [show off + 1 + j = off + (j + 1) by omega]
            exact (hb.cell (p := ⟨b, off + (j + 1), none⟩) (block_lt_of_cell hx)).trans hx
          have hrd := HR.out (j + 1) (by omega)
          have hjj : (j : Int) < ((n - 1 : Nat) : Int) := by omega
          have hs := lens_succ ps (j + 1) (by have := HN.out; omega)
          have hle := lens_le ps (j + 1 + 1)
          rw [HT.out] at hle
          have HF := hidden (flat_succ ps (j + 1) (by have := HN.out; omega))
          have HFL : Hid (((ps.take (j + 1)).flatten).length = lens ps (j + 1)) := rfl
          generalize hB : lens ps (j + 1) = bp at *
          generalize ps.getD (j + 1) [] = ys at *
          generalize V (j + 1) = v at *
          have HRD := hidden hrd
          have HBP := hidden hB
          have HS := hidden hs
          have hbl : bp + ys.length ≤ T := by omega
          clear hx hrd hs hB hle
          have HX : Hid (bp + rest.length = ds.length) := hLen
          by_cases hbT : T = bp
          · have hys : ys = [] := List.eq_nil_of_length_eq_zero (by omega)
            subst hys
            subst hbT
            go_wp2_with (first | (refine wpList_cpw _ rfl _ _ rfl w.heap.size 0 0 0 0 _ [] (.slice none 0 0) hRow.out (Reads.nil _) rfl rfl (by omega) rfl (Nat.le_refl _) ?_; intro w3 hr3 hg3 hs3; simp only [List.append_nil, Nat.add_zero, List.take_append_drop] at hr3) | (refine wpList_cpw _ rfl _ _ rfl w.heap.size 0 0 0 0 _ [] v hr3 (HRD.out.grow (below_row hb hg3 (Nat.le_refl _))) rfl rfl (by omega) rfl (Nat.le_refl _) ?_; intro w4 hr4 hg4 hs4; simp only [List.append_nil, Nat.add_zero, List.take_append_drop] at hr4))
            refine ⟨⟨j + 1, rest, by omega, by go_num, by rw [HS.out]; simp, ?_, ?_, below_row (below_row hb hg3 (Nat.le_refl _)) hg4 (Nat.le_refl _)⟩, by simp [intOf]; omega⟩
            · show Row _ _ _
              rw [HF.out, List.append_nil]
              exact hr4
            · show _ = _
              rw [HS.out]
              simpa using HX.out
          · go_wp2_with (first | (refine wpList_cpw _ rfl _ _ rfl w.heap.size bp (T - bp) (T - bp) 0 _ [] (.slice none 0 0) hRow.out (Reads.nil _) rfl rfl (by have h1 := HFL.out; have h2 := HX.out; rw [List.length_append]; omega) rfl (Nat.zero_le _) ?_; intro w3 hr3 hg3 hs3; simp only [List.append_nil, Nat.add_zero, List.take_append_drop] at hr3) | (refine wpList_cpw _ rfl _ _ rfl w.heap.size bp (T - bp) (T - bp) ys.length _ ys v hr3 (HRD.out.grow (below_row hb hg3 (Nat.le_refl _))) rfl rfl (by have h1 := HFL.out; have h2 := HX.out; rw [List.length_append]; omega) rfl (by omega) ?_; intro w4 hr4 hg4 hs4))
            have e1 : ((ps.take (j + 1)).flatten ++ rest).take bp = (ps.take (j + 1)).flatten := by
              rw [← HFL.out]; simp
            have e2 : ((ps.take (j + 1)).flatten ++ rest).drop (bp + ys.length) = rest.drop ys.length := by
              rw [← HFL.out, ← List.drop_drop]; simp
            rw [e1, e2] at hr4
            refine ⟨⟨j + 1, rest.drop ys.length, by omega, by go_num, by rw [HS.out]; go_num, ?_, ?_, below_row (below_row hb hg3 (Nat.le_refl _)) hg4 (Nat.le_refl _)⟩, by simp [intOf]; omega⟩
            · show Row _ _ _
              rw [HF.out]
              exact hr4
            · show _ = _
              rw [HS.out, List.length_drop]
              have := HX.out
              omega
        · have hkl : j + 1 = n := by omega
          have hfl : (ps.take (j + 1)).flatten = ps.flatten := by rw [List.take_of_length_le (by have := HN.out; omega)]
          rw [hfl] at hRow
          have hlt2 : lens ps (j + 1) = T := by rw [lens_all ps (j + 1) (by have := HN.out; omega), HT.out]
          go_wp2
          go_ret
          refine ⟨_, [], rfl, ?_, hb⟩
          have hby : Bytes ps.flatten := HBY.out
          have := HT.out
          exact ⟨hby, Bytes.nil, by rw [List.length_nil, this]; simp only [maxLen]; omega, .inr ⟨w.heap.size, rest, Nat.le_refl _, by rw [this]; rfl, by simpa using hRow.out⟩⟩

set_option maxHeartbeats 400000 in
theorem join_of (v : Value) (w : World) (R : Ending → World → Prop) (h : Calls Tryz.prog 55 #[v, .slice none 0 0] w fun e w' => ∃ u, e = .returned u ∧ R e w') :
    Calls Tryz.prog 25 #[v] w R := by
  have H := hidden h
  clear h
  go_enter Tryz.func25, Tryz.ntmps25
  go_wp2_with (go_at_call 55; refine H.out.mono ?_; rintro e w1 ⟨u, rfl, hR⟩)
  exact hR

/-- Join of two parts, together as long as memory may be. -/
theorem join_two (b : Nat) (v1 v2 : Value) (xs ys : List Int) (w : World) (h1 : w.cell? ⟨b, 0, none⟩ = some v1) (h2 : w.cell? ⟨b, 1, none⟩ = some v2) (r1 : Reads w v1 xs) (r2 : Reads w v2 ys) (hl : xs.length + ys.length ≤ 281474976710656) :
    Calls Tryz.prog 25 #[.slice (some ⟨b, 0, none⟩) 2 2] w (JoinPost (xs ++ ys) w) := by
  refine join_of _ w _ ?_
  have key := bjoin_many b 0 2 2 _ (fun i => if i = 0 then v1 else v2) [xs, ys] w rfl (by omega) (by omega) (by omega) rfl (by simp; omega)
    (fun i hi => by
      match i, hi with
      | 0, _ => simpa using h1
      | 1, _ => simpa using h2)
    (fun i hi => by
      match i, hi with
      | 0, _ => simpa using r1
      | 1, _ => simpa using r2)
  rw [show [xs, ys].flatten = xs ++ ys by simp] at key
  refine key.mono ?_
  rintro e w' ⟨u, sp, rfl, h1, h2⟩
  exact ⟨u, rfl, u, sp, rfl, h1, h2⟩

theorem join_any (v : Value) (ps : List (List Int)) (w : World) (h : Parts w v ps) (hl : ps.flatten.length ≤ 140737488355328) :
    Calls Tryz.prog 25 #[v] w (JoinPost ps.flatten w) := by
  refine join_of v w _ ?_
  have key : Calls Tryz.prog 55 #[v, .slice none 0 0] w (JoinPost ps.flatten w) := by
    obtain ⟨a, cap, V, rfl, hc, hn, hcell, hr⟩ := h
    by_cases h0 : ps.length = 0
    · have : ps = [] := List.eq_nil_of_length_eq_zero h0
      subst this
      refine (bjoin_none a cap w).mono ?_
      rintro e w' ⟨rfl, rfl⟩
      exact ⟨_, [], rfl, Own.empty _ _ (Nat.le_refl _), grow_alloc _ _⟩
    · obtain ⟨b, off, rfl, hcc⟩ := hcell (by omega)
      by_cases h1 : ps.length = 1
      · have hf : ps.flatten = ps.getD 0 [] := by
          match ps, h1 with
          | [p], _ => simp
        rw [h1, hf]
        refine bjoin_one b off cap (V 0) _ w (by simpa using hcc 0 (by omega)) (hr 0 (by omega)) ?_
        rw [← hf]; exact hl
      · exact bjoin_many b off ps.length cap _ V ps w rfl (by omega) hn hc rfl (by omega) hcc hr
  refine key.mono ?_
  rintro e w' ⟨u, sp, rfl, h1, h2⟩
  exact ⟨u, rfl, u, sp, rfl, h1, h2⟩

end Go.Proofs.YtpihigcnoifcfaaGreatDoor

/- tag.text and the document's Text, as contracts: a byte and the parts behind it, one behind the other, in new memory. -/
namespace Go.Proofs.YtpihigcnoifcfaaGreatDoor
set_option maxRecDepth 20000
open Go.RowKit

/-- A new slice of one byte. -/
theorem own_one (base : Nat) (w : World) (z : Int) (h0 : 0 ≤ z) (h1 : z ≤ 255) (hb : base ≤ w.heap.size) : Own base (w.alloc (.cells #[.int .u8 z] 5)) (.slice (some ⟨w.heap.size, 0, none⟩) 1 1) [z] [] :=
  ⟨by intro y hy; simp at hy; subst hy; exact ⟨h0, h1⟩, Bytes.nil, by simp [maxLen], .inr ⟨w.heap.size, [], hb, rfl, heap_alloc_new w _⟩⟩

theorem text_le (ps : List (List Int)) (k : Nat) (t : Int) (h : k < ps.length) (hl : 1 + ps.flatten.length ≤ 140737488355328) : (t :: (ps.take k).flatten).length + (ps.getD k []).length ≤ 140737488355328 := by
  have h1 := lens_succ ps k h
  have h2 := lens_le ps (k + 1)
  unfold lens at *
  rw [List.length_cons]
  omega

set_option maxHeartbeats 1000000 in
theorem text_any (t : Int) (v : Value) (ps : List (List Int)) (w : World) (h0 : 0 ≤ t) (h1 : t ≤ 255) (h : Parts w v ps) (hl : 1 + ps.flatten.length ≤ 140737488355328) :
    Calls Tryz.prog 29 #[.int .u8 t, v] w (JoinPost (t :: ps.flatten) w) := by
  obtain ⟨a, cap, V, rfl, hcap, hn, hcell, hr⟩ := h
  have HC := hidden hcell
  have HR := hidden hr
  have HO : Hid (Own w.heap.size (w.alloc (.cells #[.int .u8 t] 5)) (.slice (some ⟨w.heap.size, 0, none⟩) 1 1) (t :: (ps.take 0).flatten) []) := own_one _ _ _ h0 h1 (Nat.le_refl _)
  clear hcell hr
  go_enter Tryz.func29, Tryz.ntmps29
  go_wp2_with fail
  go_loopw [5, 12] (fun b i wr => ∃ (k : Nat) (sp : List Int), k ≤ ps.length ∧ i = .int .i64 k ∧ Hid (Own w.heap.size wr b (t :: (ps.take k).flatten) sp) ∧ Below w.heap.size w wr) (fun _ i _ => ps.length - (intOf i).toNat)
  case atStart => exact ⟨0, [], by omega, rfl, HO, grow_alloc _ _⟩
  case round =>
    clear HO
    obtain ⟨k, sp, hk, rfl, hO, hb⟩ := hrel
    by_cases hlt : k < ps.length
    · obtain ⟨b, off, rfl, hcc⟩ := HC.out (by omega)
      have hx := hcc k hlt
      have hx1 := (hb.cell (p := ⟨b, off + k, none⟩) (block_lt_of_cell hx)).trans hx
      have HRK := hidden ((HR.out k hlt).grow hb)
      have HF := hidden (flat_succ ps k hlt)
      have hle := text_le ps k t hlt hl
      have HLE := hidden hle
      clear hx hcc hle
      go_wp2_with (at_builtin; refine wpList_app _ rfl _ _ rfl w.heap.size _ _ _ sp _ hO.out HRK.out rfl rfl HLE.out hb.size ?_; intro v' w' sp' h1 h2 h3 h4)
      have hO' : Own w.heap.size w' v' (t :: (ps.take (k + 1)).flatten) sp' := by
        rw [HF.out]
        exact h1
      exact ⟨⟨k + 1, sp', by omega, by go_num, hO', hb.grown h2 hb.size (fun j hj => (hO.out.lt j hj).1)⟩, by simp [intOf]; omega⟩
    · have hfl : (ps.take k).flatten = ps.flatten := by rw [List.take_of_length_le (by omega)]
      rw [hfl] at hO
      go_wp2
      go_ret
      exact ⟨_, sp, rfl, hO.out, hb⟩

end Go.Proofs.YtpihigcnoifcfaaGreatDoor
