/- octet.Join (bytes.Join with no separator), as a contract: all parts, one behind the other, in new memory. -/
import Derived.Test.YtegegoapcdmlhaaGreatDoorDn02
import Derived.Test.YtegegoapcdmlhaaGreatDoorDn15
import Derived.Lib.MakeNoZero
import Derived.Test.YtegegoapcdmlhaaGreatDoorDn04
import Derived.Deep.RegionHeld2
namespace Go.Proofs.YtegegoapcdmlhaaGreatDoor
set_option maxRecDepth 20000
open Go.RowKit

/-- v is a slice of slices that reads as these lists of bytes. -/
def Parts (w : World) (v : Value) (ps : List (List Int)) : Prop :=
  ∃ (a : Option Addr) (cap : Nat) (V : Nat → Value), v = .slice a ps.length cap ∧ ps.length ≤ cap ∧ ps.length ≤ 140737488355328 ∧ (0 < ps.length → ∃ b off, a = some ⟨b, off, none⟩ ∧ ∀ i, i < ps.length → w.cell? ⟨b, off + i, none⟩ = some (V i)) ∧ ∀ i, i < ps.length → Reads w (V i) (ps.getD i [])

theorem digits_B : ∀ (n t : Nat) (acc : List Int), ∃ ds : List Int, ds.length = acc.length + n ∧ Extern.BytealgMakeNoZero.digits n t (B acc) = B ds
  | 0, _, acc => ⟨acc, rfl, rfl⟩
  | n + 1, t, acc => by
    obtain ⟨ds, h1, h2⟩ := digits_B n (t / 256) (acc ++ [((t % 256 : Nat) : Int)])
    refine ⟨ds, by simp at h1; omega, ?_⟩
    rw [Extern.BytealgMakeNoZero.digits, ← h2]
    congr 1
    simp [B]

theorem run_mnz (n : Nat) (w : World) (hn : n ≤ 281474976710656) : ∃ t, (Extern.BytealgMakeNoZero.makeNoZero #[3] #[35] #[.int .i64 n]).run Tryz.prog w =
    .ok (.slice (some ⟨w.heap.size, 0, none⟩) n (grownCap w n 0 5)) (w.drew.drew.alloc (.cells (Extern.BytealgMakeNoZero.digits (grownCap w n 0 5) t #[]) 5)) := by
  apply Exists.intro
  show Sem.run Tryz.prog (do
        let .slice elem ← underlying 35 | stuck _
        if (n : Int) < 0 || (n : Int) > 2 ^ 48 then runtimePanic _
        let cap ← choose (.appendCap (n : Int).toNat 0 elem)
        askRoom cap
        let bytes ← choose _
        let a ← newRow elem (Extern.BytealgMakeNoZero.digits cap bytes #[])
        pure (Value.slice (some a) (n : Int).toNat cap)) w = _
  have g1 : ¬ (n : Int) < 0 := by omega
  have g2 : ¬ (281474976710656 : Int) < (n : Int) := by omega
  simp [run_underlying u_bytes, g1, g2, Question.forced, newRow, grownCap]
  rfl

/-- How many bytes the first k parts have. -/
def lens (ps : List (List Int)) (k : Nat) : Nat := ((ps.take k).flatten).length
theorem lens_succ (ps : List (List Int)) (k : Nat) (h : k < ps.length) : lens ps (k + 1) = lens ps k + (ps.getD k []).length := by
  unfold lens
  rw [List.take_succ_eq_append_getElem h, List.flatten_append, List.length_append]
  simp [List.getD, h]
theorem flat_succ (ps : List (List Int)) (k : Nat) (h : k < ps.length) : (ps.take (k + 1)).flatten = (ps.take k).flatten ++ ps.getD k [] := by
  rw [List.take_succ_eq_append_getElem h, List.flatten_append]
  simp [List.getD, h]
theorem lens_le (ps : List (List Int)) (k : Nat) : lens ps k ≤ ps.flatten.length := by
  unfold lens
  conv => rhs; rw [← List.take_append_drop k ps, List.flatten_append, List.length_append]
  omega
theorem lens_all (ps : List (List Int)) (k : Nat) (h : ps.length ≤ k) : lens ps k = ps.flatten.length := by
  unfold lens
  rw [List.take_of_length_le h]

/-- What Join leaves. -/
def JoinPost (zs : List Int) (w : World) (e : Ending) (w' : World) : Prop := ∃ u sp, e = .returned u ∧ Own w.heap.size w' u zs sp ∧ Below w.heap.size w w'

end Go.Proofs.YtegegoapcdmlhaaGreatDoor

/- tag.text and the document's Text, as contracts: a byte and the parts behind it, one behind the other, in new memory. -/
namespace Go.Proofs.YtegegoapcdmlhaaGreatDoor
set_option maxRecDepth 20000
open Go.RowKit

/-- A new slice of one byte. -/
theorem own_one (base : Nat) (w : World) (z : Int) (h0 : 0 ≤ z) (h1 : z ≤ 255) (hb : base ≤ w.heap.size) : Own base (w.alloc (.cells #[.int .u8 z] 5)) (.slice (some ⟨w.heap.size, 0, none⟩) 1 1) [z] [] :=
  ⟨by intro y hy; simp at hy; subst hy; exact ⟨h0, h1⟩, Bytes.nil, by simp [maxLen], .inr ⟨w.heap.size, [], hb, rfl, heap_alloc_new w _⟩⟩

theorem text_le (ps : List (List Int)) (k : Nat) (t : Int) (h : k < ps.length) (hl : 1 + ps.flatten.length ≤ 140737488355328) : (t :: (ps.take k).flatten).length + (ps.getD k []).length ≤ 140737488355328 := by
  have h1 := lens_succ ps k h
  have h2 := lens_le ps (k + 1)
  unfold lens at *
  rw [List.length_cons]
  omega

set_option maxHeartbeats 1000000 in
theorem refText_any (t : Int) (v : Value) (ps : List (List Int)) (w : World) (h0 : 0 ≤ t) (h1 : t ≤ 255) (h : Parts w v ps) (hl : 1 + ps.flatten.length ≤ 140737488355328) :
    Calls Tryz.prog 255 #[.int .u8 t, v] w (JoinPost (t :: ps.flatten) w) := by
  obtain ⟨a, cap, V, rfl, hcap, hn, hcell, hr⟩ := h
  have HC := hidden hcell
  have HR := hidden hr
  have HO : Hid (Own w.heap.size (w.alloc (.cells #[.int .u8 t] 5)) (.slice (some ⟨w.heap.size, 0, none⟩) 1 1) (t :: (ps.take 0).flatten) []) := own_one _ _ _ h0 h1 (Nat.le_refl _)
  clear hcell hr
  go_enter Tryz.func255, Tryz.ntmps255
  go_wp2_with fail
  go_loopw [5, 6] (fun b i wr => ∃ (k : Nat) (sp : List Int), k ≤ ps.length ∧ i = .int .i64 k ∧ Hid (Own w.heap.size wr b (t :: (ps.take k).flatten) sp) ∧ Below w.heap.size w wr) (fun _ i _ => ps.length - (intOf i).toNat)
  case atStart => exact ⟨0, [], by omega, rfl, HO, grow_alloc _ _⟩
  case round =>
    clear HO
    obtain ⟨k, sp, hk, rfl, hO, hb⟩ := hrel
    by_cases hlt : k < ps.length
    · obtain ⟨b, off, rfl, hcc⟩ := HC.out (by omega)
      have hx := hcc k hlt
      have hx1 := (hb.cell (p := ⟨b, off + k, none⟩) (block_lt_of_cell hx)).trans hx
      have HRK := hidden ((HR.out k hlt).grow hb)
      have HF := hidden (flat_succ ps k hlt)
      have hle := text_le ps k t hlt hl
      have HLE := hidden hle
      clear hx hcc hle
      go_wp2_with (at_builtin; refine wpList_app _ rfl _ _ rfl w.heap.size _ _ _ sp _ hO.out HRK.out rfl rfl HLE.out hb.size ?_; intro v' w' sp' h1 h2 h3 h4)
      have hO' : Own w.heap.size w' v' (t :: (ps.take (k + 1)).flatten) sp' := by
        rw [HF.out]
        exact h1
      exact ⟨⟨k + 1, sp', by omega, by go_num, hO', hb.grown h2 hb.size (fun j hj => (hO.out.lt j hj).1)⟩, by simp [intOf]; omega⟩
    · have hfl : (ps.take k).flatten = ps.flatten := by rw [List.take_of_length_le (by omega)]
      rw [hfl] at hO
      go_wp2
      go_ret
      exact ⟨_, sp, rfl, hO.out, hb⟩

end Go.Proofs.YtegegoapcdmlhaaGreatDoor

/- tag's EmptyText, ValueText, LeafText, InnerText and the document's texts, as contracts. -/
namespace Go.Proofs.YtegegoapcdmlhaaGreatDoor
set_option maxRecDepth 20000
open Go.RowKit

theorem parts_nil (w : World) : Parts w (.slice none 0 0) [] := ⟨none, 0, fun _ => .slice none 0 0, rfl, by simp, by simp, fun h => by simp at h, fun i hi => by simp at hi⟩

theorem parts_one (w : World) (v : Value) (zs : List Int) (h : Reads w v zs) : Parts (w.alloc (.cells #[v] 35)) (.slice (some ⟨w.heap.size, 0, none⟩) 1 1) [zs] := by
  refine ⟨_, 1, fun _ => v, rfl, Nat.le_refl _, by simp, fun _ => ⟨w.heap.size, 0, rfl, fun i hi => ?_⟩, fun i hi => ?_⟩
  · have hr : (w.alloc (.cells #[v] 35)).heap[w.heap.size]? = some (.cells #[v] 35 (0, 0)) := heap_alloc_new w _
    rw [cell_of_row _ _ _ _ _ _ hr]
    match i, hi with
    | 0, _ => rfl
  · match i, hi with
    | 0, _ => exact h.grow (grow_alloc w _)

theorem parts_two (w : World) (v u : Value) (zs ys : List Int) (h : Reads w v zs) (k : Reads w u ys) : Parts (w.alloc (.cells #[v, u] 35)) (.slice (some ⟨w.heap.size, 0, none⟩) 2 2) [zs, ys] := by
  refine ⟨_, 2, fun i => if i = 0 then v else u, rfl, Nat.le_refl _, by simp, fun _ => ⟨w.heap.size, 0, rfl, fun i hi => ?_⟩, fun i hi => ?_⟩
  · have hr : (w.alloc (.cells #[v, u] 35)).heap[w.heap.size]? = some (.cells #[v, u] 35 (0, 0)) := heap_alloc_new w _
    rw [cell_of_row _ _ _ _ _ _ hr]
    match i, hi with
    | 0, _ => rfl
    | 1, _ => rfl
  · match i, hi with
    | 0, _ => exact h.grow (grow_alloc w _)
    | 1, _ => exact k.grow (grow_alloc w _)

theorem Blk.readsN {w : World} {g : Nat} {t : TypeId} {zs : List Int} (h : Blk w g t (B zs)) (hb : Bytes zs) (n : Nat) (hn : zs.length = n) : Reads w (.slice (some ⟨g, 0, none⟩) n n) zs := by
  subst hn
  exact ⟨_, _, rfl, Nat.le_refl _, fun h => by simp at h, hb, fun _ => ⟨g, 0, rfl, fun i hi => by rw [Nat.zero_add]; exact h.bcell i hi⟩⟩

set_option maxHeartbeats 1000000 in
theorem refLeafText_any (K A : List Int) (w : World) (hk : K.length = 32) (ha : A.length = 32) (bk : Bytes K) (ba : Bytes A) : Calls Tryz.prog 229 #[.agg (B K), .agg (B A)] w (JoinPost (1 :: (K ++ A)) w) := by
  have H : Hid (∀ w' g1 g2, Blk w' g1 33 (B K) → Blk w' g2 33 (B A) → Calls Tryz.prog 255 #[.int .u8 1, .slice (some ⟨w'.heap.size, 0, none⟩) 2 2] (w'.alloc (.cells #[.slice (some ⟨g1, 0, none⟩) 32 32, .slice (some ⟨g2, 0, none⟩) 32 32] 35)) (JoinPost (1 :: (K ++ A)) (w'.alloc (.cells #[.slice (some ⟨g1, 0, none⟩) 32 32, .slice (some ⟨g2, 0, none⟩) 32 32] 35)))) := by
    intro w' g1 g2 B1 B2
    have := refText_any 1 _ [K, A] _ (by omega) (by omega) (parts_two w' _ _ K A (B1.readsN bk 32 hk) (B2.readsN ba 32 ha)) (by simp [hk, ha])
    rw [show [K, A].flatten = K ++ A by simp] at this
    exact this
  clear bk ba hk ha
  go_enter Tryz.func229, Tryz.ntmps229
  go_wp2_with (first | (have hx := hl1; clear hx; refine wpList_bx _ rfl _ _ rfl _ rfl ?_; intro w2 g2 hg2 hl2 B2 b2) | (refine wpList_bx _ rfl _ _ rfl _ rfl ?_; intro w1 g1 hg1 hl1 B1 b1))
  have c2 := b1.trans (b2.mono b1.size)
  have HB1 := hidden (B1.grow b2)
  have HB2 := hidden B2
  clear B1 B2
  refine wp_region_any (by kernel_rfl) ?_
  change wpAny _ _ _ _ _ _ _ (World.drew _)
  refine wpAny_take (i := 0) (v := .slice (some ⟨g1, 0, none⟩) 32 32) rfl (by kernel_rfl) (by kernel_rfl) (by kernel_rfl) (fun _ _ _ h => h) (Or.inl ⟨by rfl, fun w => by go_simp⟩) ?_
  simp only [Act.put, List.getElem_toArray, List.getElem_cons_zero, List.setIfInBounds_toArray, List.set_cons_zero, List.set_cons_succ]
  refine wpAny_take (i := 1) (v := .slice (some ⟨g2, 0, none⟩) 32 32) rfl (by kernel_rfl) (by kernel_rfl) (by kernel_rfl) (fun _ _ _ h => h) (Or.inl ⟨by rfl, fun w => by go_simp⟩) ?_
  simp only [Act.put, List.getElem_toArray, List.getElem_cons_zero, List.getElem_cons_succ, List.setIfInBounds_toArray, List.set_cons_zero, List.set_cons_succ]
  refine wpAny_ready (rs := [2]) (by kernel_rfl) (by simp) ?_
  refine AllReady.cons rfl (fun K1 hK => ?_) AllReady.nil
  go_simp
  refine hK _ _ ?_
  clear hK K1
  refine wpAny_ready (rs := [3]) (by kernel_rfl) (by simp) ?_
  refine AllReady.cons rfl (fun K1 hK => ?_) AllReady.nil
  go_simp
  refine (H.out w2.drew g1 g2 HB1.out HB2.out).mono ?_
  rintro e w3 ⟨u, sp, rfl, hO, hb⟩
  refine hK _ _ ?_
  clear hK K1
  refine wpAny_take (i := 4) (v := u) rfl (by kernel_rfl) (by kernel_rfl) (by kernel_rfl) (fun _ _ _ h => h) (Or.inl ⟨by rfl, fun w => by go_simp⟩) ?_
  refine wpAny_done (by kernel_rfl) ?_ _
  simp only [Act.put, List.getElem_toArray, List.getElem_cons_zero, List.getElem_cons_succ, List.setIfInBounds_toArray, List.set_cons_zero, List.set_cons_succ]
  have c3 : Below w.heap.size w w3 := c2.trans (((grow_trans (Below.refl _ _).drew (grow_trans (grow_alloc _ _) hb))).mono c2.size)
  have hO' := hO.mono (b' := w.heap.size) (Nat.le_trans c2.size (grow_alloc w2.drew _).size)
  clear hO hb
  go_wp2
  go_ret
  exact ⟨_, sp, rfl, hO', c3⟩

set_option maxHeartbeats 1000000 in
theorem refInnerText_any (K A : List Int) (w : World) (hk : K.length = 32) (ha : A.length = 32) (bk : Bytes K) (ba : Bytes A) : Calls Tryz.prog 230 #[.agg (B K), .agg (B A)] w (JoinPost (2 :: (K ++ A)) w) := by
  have H : Hid (∀ w' g1 g2, Blk w' g1 33 (B K) → Blk w' g2 33 (B A) → Calls Tryz.prog 255 #[.int .u8 2, .slice (some ⟨w'.heap.size, 0, none⟩) 2 2] (w'.alloc (.cells #[.slice (some ⟨g1, 0, none⟩) 32 32, .slice (some ⟨g2, 0, none⟩) 32 32] 35)) (JoinPost (2 :: (K ++ A)) (w'.alloc (.cells #[.slice (some ⟨g1, 0, none⟩) 32 32, .slice (some ⟨g2, 0, none⟩) 32 32] 35)))) := by
    intro w' g1 g2 B1 B2
    have := refText_any 2 _ [K, A] _ (by omega) (by omega) (parts_two w' _ _ K A (B1.readsN bk 32 hk) (B2.readsN ba 32 ha)) (by simp [hk, ha])
    rw [show [K, A].flatten = K ++ A by simp] at this
    exact this
  clear bk ba hk ha
  go_enter Tryz.func230, Tryz.ntmps230
  go_wp2_with (first | (have hx := hl1; clear hx; refine wpList_bx _ rfl _ _ rfl _ rfl ?_; intro w2 g2 hg2 hl2 B2 b2) | (refine wpList_bx _ rfl _ _ rfl _ rfl ?_; intro w1 g1 hg1 hl1 B1 b1))
  have c2 := b1.trans (b2.mono b1.size)
  have HB1 := hidden (B1.grow b2)
  have HB2 := hidden B2
  clear B1 B2
  refine wp_region_any (by kernel_rfl) ?_
  change wpAny _ _ _ _ _ _ _ (World.drew _)
  refine wpAny_take (i := 0) (v := .slice (some ⟨g1, 0, none⟩) 32 32) rfl (by kernel_rfl) (by kernel_rfl) (by kernel_rfl) (fun _ _ _ h => h) (Or.inl ⟨by rfl, fun w => by go_simp⟩) ?_
  simp only [Act.put, List.getElem_toArray, List.getElem_cons_zero, List.setIfInBounds_toArray, List.set_cons_zero, List.set_cons_succ]
  refine wpAny_take (i := 1) (v := .slice (some ⟨g2, 0, none⟩) 32 32) rfl (by kernel_rfl) (by kernel_rfl) (by kernel_rfl) (fun _ _ _ h => h) (Or.inl ⟨by rfl, fun w => by go_simp⟩) ?_
  simp only [Act.put, List.getElem_toArray, List.getElem_cons_zero, List.getElem_cons_succ, List.setIfInBounds_toArray, List.set_cons_zero, List.set_cons_succ]
  refine wpAny_ready (rs := [2]) (by kernel_rfl) (by simp) ?_
  refine AllReady.cons rfl (fun K1 hK => ?_) AllReady.nil
  go_simp
  refine hK _ _ ?_
  clear hK K1
  refine wpAny_ready (rs := [3]) (by kernel_rfl) (by simp) ?_
  refine AllReady.cons rfl (fun K1 hK => ?_) AllReady.nil
  go_simp
  refine (H.out w2.drew g1 g2 HB1.out HB2.out).mono ?_
  rintro e w3 ⟨u, sp, rfl, hO, hb⟩
  refine hK _ _ ?_
  clear hK K1
  refine wpAny_take (i := 4) (v := u) rfl (by kernel_rfl) (by kernel_rfl) (by kernel_rfl) (fun _ _ _ h => h) (Or.inl ⟨by rfl, fun w => by go_simp⟩) ?_
  refine wpAny_done (by kernel_rfl) ?_ _
  simp only [Act.put, List.getElem_toArray, List.getElem_cons_zero, List.getElem_cons_succ, List.setIfInBounds_toArray, List.set_cons_zero, List.set_cons_succ]
  have c3 : Below w.heap.size w w3 := c2.trans (((grow_trans (Below.refl _ _).drew (grow_trans (grow_alloc _ _) hb))).mono c2.size)
  have hO' := hO.mono (b' := w.heap.size) (Nat.le_trans c2.size (grow_alloc w2.drew _).size)
  clear hO hb
  go_wp2
  go_ret
  exact ⟨_, sp, rfl, hO', c3⟩

end Go.Proofs.YtegegoapcdmlhaaGreatDoor
