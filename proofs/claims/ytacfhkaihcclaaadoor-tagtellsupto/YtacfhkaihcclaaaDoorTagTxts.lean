/- tag's EmptyText, ValueText, LeafText, InnerText and the document's texts, as contracts. -/
import Derived.Test.YtacfhkaihcclaaaDoorTagText
import Derived.Test.YtacfhkaihcclaaaDoorShaMem
import Derived.Deep.RegionHeld2
namespace Go.Proofs.YtacfhkaihcclaaaDoor
open Go.RowKit

theorem parts_nil (w : World) : Parts w (.slice none 0 0) [] := ⟨none, 0, fun _ => .slice none 0 0, rfl, by simp, by simp, fun h => by simp at h, fun i hi => by simp at hi⟩

theorem parts_one (w : World) (v : Value) (zs : List Int) (h : Reads w v zs) : Parts (w.alloc (.cells #[v] 25)) (.slice (some ⟨w.heap.size, 0, none⟩) 1 1) [zs] := by
  refine ⟨_, 1, fun _ => v, rfl, Nat.le_refl _, by simp, fun _ => ⟨w.heap.size, 0, rfl, fun i hi => ?_⟩, fun i hi => ?_⟩
  · have hr : (w.alloc (.cells #[v] 25)).heap[w.heap.size]? = some (.cells #[v] 25 (0, 0)) := heap_alloc_new w _
    rw [cell_of_row _ _ _ _ _ _ hr]
    match i, hi with
    | 0, _ => rfl
  · match i, hi with
    | 0, _ => exact h.grow (grow_alloc w _)

theorem parts_two (w : World) (v u : Value) (zs ys : List Int) (h : Reads w v zs) (k : Reads w u ys) : Parts (w.alloc (.cells #[v, u] 25)) (.slice (some ⟨w.heap.size, 0, none⟩) 2 2) [zs, ys] := by
  refine ⟨_, 2, fun i => if i = 0 then v else u, rfl, Nat.le_refl _, by simp, fun _ => ⟨w.heap.size, 0, rfl, fun i hi => ?_⟩, fun i hi => ?_⟩
  · have hr : (w.alloc (.cells #[v, u] 25)).heap[w.heap.size]? = some (.cells #[v, u] 25 (0, 0)) := heap_alloc_new w _
    rw [cell_of_row _ _ _ _ _ _ hr]
    match i, hi with
    | 0, _ => rfl
    | 1, _ => rfl
  · match i, hi with
    | 0, _ => exact h.grow (grow_alloc w _)
    | 1, _ => exact k.grow (grow_alloc w _)

theorem Blk.readsN {w : World} {g : Nat} {t : TypeId} {zs : List Int} (h : Blk w g t (B zs)) (hb : Bytes zs) (n : Nat) (hn : zs.length = n) : Reads w (.slice (some ⟨g, 0, none⟩) n n) zs := by
  subst hn
  exact ⟨_, _, rfl, Nat.le_refl _, fun h => by simp at h, hb, fun _ => ⟨g, 0, rfl, fun i hi => by rw [Nat.zero_add]; exact h.bcell i hi⟩⟩

set_option maxHeartbeats 400000 in
theorem emptyText_any (w : World) : Calls Tryd.prog 24 #[] w (JoinPost [0] w) := by
  have H := hidden (text_any 0 _ [] w (by omega) (by omega) (parts_nil w) (by simp))
  go_enter Tryd.func24, Tryd.ntmps24
  go_wp2_with (go_at_call 36; refine H.out.mono ?_; rintro e w1 ⟨v, sp, rfl, hO, hb⟩)
  go_ret
  exact ⟨_, sp, rfl, hO, hb⟩

set_option maxHeartbeats 400000 in
theorem valueText_any (v : Value) (zs : List Int) (w : World) (h : Reads w v zs) (hl : zs.length < 140737488355328) : Calls Tryd.prog 25 #[v] w (JoinPost (3 :: zs) w) := by
  have H := hidden (text_any 3 _ [zs] _ (by omega) (by omega) (parts_one w v zs h) (by simp; omega))
  have HE : Hid ([zs].flatten = zs) := by show _ = _; simp
  rw [HE.out] at H
  obtain ⟨a, c, rfl, _, _, _, _⟩ := h
  go_enter Tryd.func25, Tryd.ntmps25
  go_wp2_with (go_at_call 36; refine H.out.mono ?_; rintro e w1 ⟨u, sp, rfl, hO, hb⟩)
  go_ret
  exact ⟨_, sp, rfl, hO.mono (grow_alloc _ _).size, grow_trans (grow_alloc _ _) hb⟩

set_option maxHeartbeats 1000000 in
theorem leafText_any (K A : List Int) (w : World) (hk : K.length = 32) (ha : A.length = 32) (bk : Bytes K) (ba : Bytes A) : Calls Tryd.prog 26 #[.agg (B K), .agg (B A)] w (JoinPost (1 :: (K ++ A)) w) := by
  have H : Hid (∀ w' g1 g2, Blk w' g1 24 (B K) → Blk w' g2 26 (B A) → Calls Tryd.prog 36 #[.int .u8 1, .slice (some ⟨w'.heap.size, 0, none⟩) 2 2] (w'.alloc (.cells #[.slice (some ⟨g1, 0, none⟩) 32 32, .slice (some ⟨g2, 0, none⟩) 32 32] 25)) (JoinPost (1 :: (K ++ A)) (w'.alloc (.cells #[.slice (some ⟨g1, 0, none⟩) 32 32, .slice (some ⟨g2, 0, none⟩) 32 32] 25)))) := by
    intro w' g1 g2 B1 B2
    have := text_any 1 _ [K, A] _ (by omega) (by omega) (parts_two w' _ _ K A (B1.readsN bk 32 hk) (B2.readsN ba 32 ha)) (by simp [hk, ha])
    rw [show [K, A].flatten = K ++ A by simp] at this
    exact this
  clear bk ba hk ha
  go_enter Tryd.func26, Tryd.ntmps26
  go_wp2_with (first | (have hx := hl1; clear hx; refine wpList_bx _ rfl _ _ rfl _ rfl ?_; intro w2 g2 hg2 hl2 B2 b2) | (refine wpList_bx _ rfl _ _ rfl _ rfl ?_; intro w1 g1 hg1 hl1 B1 b1))
  have c2 := b1.trans (b2.mono b1.size)
  have HB1 := hidden (B1.grow b2)
  have HB2 := hidden B2
  clear B1 B2
  refine wp_region_any (by kernel_rfl) ?_
  change wpAny _ _ _ _ _ _ _ (World.drew _)
  refine wpAny_take (i := 0) (v := .slice (some ⟨g1, 0, none⟩) 32 32) rfl (by kernel_rfl) (by kernel_rfl) (by kernel_rfl) (fun _ _ _ h => h) (Or.inl ⟨by rfl, fun w => by go_simp⟩) ?_
  simp only [Act.put, List.getElem_toArray, List.getElem_cons_zero, List.setIfInBounds_toArray, List.set_cons_zero, List.set_cons_succ]
  refine wpAny_take (i := 1) (v := .slice (some ⟨g2, 0, none⟩) 32 32) rfl (by kernel_rfl) (by kernel_rfl) (by kernel_rfl) (fun _ _ _ h => h) (Or.inl ⟨by rfl, fun w => by go_simp⟩) ?_
  simp only [Act.put, List.getElem_toArray, List.getElem_cons_zero, List.getElem_cons_succ, List.setIfInBounds_toArray, List.set_cons_zero, List.set_cons_succ]
  refine wpAny_ready (rs := [2]) (by kernel_rfl) (by simp) ?_
  refine AllReady.cons rfl (fun K1 hK => ?_) AllReady.nil
  go_simp
  refine hK _ _ ?_
  clear hK K1
  refine wpAny_ready (rs := [3]) (by kernel_rfl) (by simp) ?_
  refine AllReady.cons rfl (fun K1 hK => ?_) AllReady.nil
  go_simp
  refine (H.out w2.drew g1 g2 HB1.out HB2.out).mono ?_
  rintro e w3 ⟨u, sp, rfl, hO, hb⟩
  refine hK _ _ ?_
  clear hK K1
  refine wpAny_take (i := 4) (v := u) rfl (by kernel_rfl) (by kernel_rfl) (by kernel_rfl) (fun _ _ _ h => h) (Or.inl ⟨by rfl, fun w => by go_simp⟩) ?_
  refine wpAny_done (by kernel_rfl) ?_ _
  simp only [Act.put, List.getElem_toArray, List.getElem_cons_zero, List.getElem_cons_succ, List.setIfInBounds_toArray, List.set_cons_zero, List.set_cons_succ]
  have c3 : Below w.heap.size w w3 := c2.trans (((grow_trans (Below.refl _ _).drew (grow_trans (grow_alloc _ _) hb))).mono c2.size)
  have hO' := hO.mono (b' := w.heap.size) (Nat.le_trans c2.size (grow_alloc w2.drew _).size)
  clear hO hb
  go_wp2
  go_ret
  exact ⟨_, sp, rfl, hO', c3⟩

set_option maxHeartbeats 1000000 in
theorem innerText_any (K A : List Int) (w : World) (hk : K.length = 32) (ha : A.length = 32) (bk : Bytes K) (ba : Bytes A) : Calls Tryd.prog 27 #[.agg (B K), .agg (B A)] w (JoinPost (2 :: (K ++ A)) w) := by
  have H : Hid (∀ w' g1 g2, Blk w' g1 26 (B K) → Blk w' g2 26 (B A) → Calls Tryd.prog 36 #[.int .u8 2, .slice (some ⟨w'.heap.size, 0, none⟩) 2 2] (w'.alloc (.cells #[.slice (some ⟨g1, 0, none⟩) 32 32, .slice (some ⟨g2, 0, none⟩) 32 32] 25)) (JoinPost (2 :: (K ++ A)) (w'.alloc (.cells #[.slice (some ⟨g1, 0, none⟩) 32 32, .slice (some ⟨g2, 0, none⟩) 32 32] 25)))) := by
    intro w' g1 g2 B1 B2
    have := text_any 2 _ [K, A] _ (by omega) (by omega) (parts_two w' _ _ K A (B1.readsN bk 32 hk) (B2.readsN ba 32 ha)) (by simp [hk, ha])
    rw [show [K, A].flatten = K ++ A by simp] at this
    exact this
  clear bk ba hk ha
  go_enter Tryd.func27, Tryd.ntmps27
  go_wp2_with (first | (have hx := hl1; clear hx; refine wpList_bx _ rfl _ _ rfl _ rfl ?_; intro w2 g2 hg2 hl2 B2 b2) | (refine wpList_bx _ rfl _ _ rfl _ rfl ?_; intro w1 g1 hg1 hl1 B1 b1))
  have c2 := b1.trans (b2.mono b1.size)
  have HB1 := hidden (B1.grow b2)
  have HB2 := hidden B2
  clear B1 B2
  refine wp_region_any (by kernel_rfl) ?_
  change wpAny _ _ _ _ _ _ _ (World.drew _)
  refine wpAny_take (i := 0) (v := .slice (some ⟨g1, 0, none⟩) 32 32) rfl (by kernel_rfl) (by kernel_rfl) (by kernel_rfl) (fun _ _ _ h => h) (Or.inl ⟨by rfl, fun w => by go_simp⟩) ?_
  simp only [Act.put, List.getElem_toArray, List.getElem_cons_zero, List.setIfInBounds_toArray, List.set_cons_zero, List.set_cons_succ]
  refine wpAny_take (i := 1) (v := .slice (some ⟨g2, 0, none⟩) 32 32) rfl (by kernel_rfl) (by kernel_rfl) (by kernel_rfl) (fun _ _ _ h => h) (Or.inl ⟨by rfl, fun w => by go_simp⟩) ?_
  simp only [Act.put, List.getElem_toArray, List.getElem_cons_zero, List.getElem_cons_succ, List.setIfInBounds_toArray, List.set_cons_zero, List.set_cons_succ]
  refine wpAny_ready (rs := [2]) (by kernel_rfl) (by simp) ?_
  refine AllReady.cons rfl (fun K1 hK => ?_) AllReady.nil
  go_simp
  refine hK _ _ ?_
  clear hK K1
  refine wpAny_ready (rs := [3]) (by kernel_rfl) (by simp) ?_
  refine AllReady.cons rfl (fun K1 hK => ?_) AllReady.nil
  go_simp
  refine (H.out w2.drew g1 g2 HB1.out HB2.out).mono ?_
  rintro e w3 ⟨u, sp, rfl, hO, hb⟩
  refine hK _ _ ?_
  clear hK K1
  refine wpAny_take (i := 4) (v := u) rfl (by kernel_rfl) (by kernel_rfl) (by kernel_rfl) (fun _ _ _ h => h) (Or.inl ⟨by rfl, fun w => by go_simp⟩) ?_
  refine wpAny_done (by kernel_rfl) ?_ _
  simp only [Act.put, List.getElem_toArray, List.getElem_cons_zero, List.getElem_cons_succ, List.setIfInBounds_toArray, List.set_cons_zero, List.set_cons_succ]
  have c3 : Below w.heap.size w w3 := c2.trans (((grow_trans (Below.refl _ _).drew (grow_trans (grow_alloc _ _) hb))).mono c2.size)
  have hO' := hO.mono (b' := w.heap.size) (Nat.le_trans c2.size (grow_alloc w2.drew _).size)
  clear hO hb
  go_wp2
  go_ret
  exact ⟨_, sp, rfl, hO', c3⟩

set_option maxHeartbeats 1000000 in
theorem refLeafText_any (K A : List Int) (w : World) (hk : K.length = 32) (ha : A.length = 32) (bk : Bytes K) (ba : Bytes A) : Calls Tryd.prog 32 #[.agg (B K), .agg (B A)] w (JoinPost (1 :: (K ++ A)) w) := by
  have H : Hid (∀ w' g1 g2, Blk w' g1 23 (B K) → Blk w' g2 23 (B A) → Calls Tryd.prog 31 #[.int .u8 1, .slice (some ⟨w'.heap.size, 0, none⟩) 2 2] (w'.alloc (.cells #[.slice (some ⟨g1, 0, none⟩) 32 32, .slice (some ⟨g2, 0, none⟩) 32 32] 25)) (JoinPost (1 :: (K ++ A)) (w'.alloc (.cells #[.slice (some ⟨g1, 0, none⟩) 32 32, .slice (some ⟨g2, 0, none⟩) 32 32] 25)))) := by
    intro w' g1 g2 B1 B2
    have := refText_any 1 _ [K, A] _ (by omega) (by omega) (parts_two w' _ _ K A (B1.readsN bk 32 hk) (B2.readsN ba 32 ha)) (by simp [hk, ha])
    rw [show [K, A].flatten = K ++ A by simp] at this
    exact this
  clear bk ba hk ha
  go_enter Tryd.func32, Tryd.ntmps32
  go_wp2_with (first | (have hx := hl1; clear hx; refine wpList_bx _ rfl _ _ rfl _ rfl ?_; intro w2 g2 hg2 hl2 B2 b2) | (refine wpList_bx _ rfl _ _ rfl _ rfl ?_; intro w1 g1 hg1 hl1 B1 b1))
  have c2 := b1.trans (b2.mono b1.size)
  have HB1 := hidden (B1.grow b2)
  have HB2 := hidden B2
  clear B1 B2
  refine wp_region_any (by kernel_rfl) ?_
  change wpAny _ _ _ _ _ _ _ (World.drew _)
  refine wpAny_take (i := 0) (v := .slice (some ⟨g1, 0, none⟩) 32 32) rfl (by kernel_rfl) (by kernel_rfl) (by kernel_rfl) (fun _ _ _ h => h) (Or.inl ⟨by rfl, fun w => by go_simp⟩) ?_
  simp only [Act.put, List.getElem_toArray, List.getElem_cons_zero, List.setIfInBounds_toArray, List.set_cons_zero, List.set_cons_succ]
  refine wpAny_take (i := 1) (v := .slice (some ⟨g2, 0, none⟩) 32 32) rfl (by kernel_rfl) (by kernel_rfl) (by kernel_rfl) (fun _ _ _ h => h) (Or.inl ⟨by rfl, fun w => by go_simp⟩) ?_
  simp only [Act.put, List.getElem_toArray, List.getElem_cons_zero, List.getElem_cons_succ, List.setIfInBounds_toArray, List.set_cons_zero, List.set_cons_succ]
  refine wpAny_ready (rs := [2]) (by kernel_rfl) (by simp) ?_
  refine AllReady.cons rfl (fun K1 hK => ?_) AllReady.nil
  go_simp
  refine hK _ _ ?_
  clear hK K1
  refine wpAny_ready (rs := [3]) (by kernel_rfl) (by simp) ?_
  refine AllReady.cons rfl (fun K1 hK => ?_) AllReady.nil
  go_simp
  refine (H.out w2.drew g1 g2 HB1.out HB2.out).mono ?_
  rintro e w3 ⟨u, sp, rfl, hO, hb⟩
  refine hK _ _ ?_
  clear hK K1
  refine wpAny_take (i := 4) (v := u) rfl (by kernel_rfl) (by kernel_rfl) (by kernel_rfl) (fun _ _ _ h => h) (Or.inl ⟨by rfl, fun w => by go_simp⟩) ?_
  refine wpAny_done (by kernel_rfl) ?_ _
  simp only [Act.put, List.getElem_toArray, List.getElem_cons_zero, List.getElem_cons_succ, List.setIfInBounds_toArray, List.set_cons_zero, List.set_cons_succ]
  have c3 : Below w.heap.size w w3 := c2.trans (((grow_trans (Below.refl _ _).drew (grow_trans (grow_alloc _ _) hb))).mono c2.size)
  have hO' := hO.mono (b' := w.heap.size) (Nat.le_trans c2.size (grow_alloc w2.drew _).size)
  clear hO hb
  go_wp2
  go_ret
  exact ⟨_, sp, rfl, hO', c3⟩

set_option maxHeartbeats 1000000 in
theorem refInnerText_any (K A : List Int) (w : World) (hk : K.length = 32) (ha : A.length = 32) (bk : Bytes K) (ba : Bytes A) : Calls Tryd.prog 33 #[.agg (B K), .agg (B A)] w (JoinPost (2 :: (K ++ A)) w) := by
  have H : Hid (∀ w' g1 g2, Blk w' g1 23 (B K) → Blk w' g2 23 (B A) → Calls Tryd.prog 31 #[.int .u8 2, .slice (some ⟨w'.heap.size, 0, none⟩) 2 2] (w'.alloc (.cells #[.slice (some ⟨g1, 0, none⟩) 32 32, .slice (some ⟨g2, 0, none⟩) 32 32] 25)) (JoinPost (2 :: (K ++ A)) (w'.alloc (.cells #[.slice (some ⟨g1, 0, none⟩) 32 32, .slice (some ⟨g2, 0, none⟩) 32 32] 25)))) := by
    intro w' g1 g2 B1 B2
    have := refText_any 2 _ [K, A] _ (by omega) (by omega) (parts_two w' _ _ K A (B1.readsN bk 32 hk) (B2.readsN ba 32 ha)) (by simp [hk, ha])
    rw [show [K, A].flatten = K ++ A by simp] at this
    exact this
  clear bk ba hk ha
  go_enter Tryd.func33, Tryd.ntmps33
  go_wp2_with (first | (have hx := hl1; clear hx; refine wpList_bx _ rfl _ _ rfl _ rfl ?_; intro w2 g2 hg2 hl2 B2 b2) | (refine wpList_bx _ rfl _ _ rfl _ rfl ?_; intro w1 g1 hg1 hl1 B1 b1))
  have c2 := b1.trans (b2.mono b1.size)
  have HB1 := hidden (B1.grow b2)
  have HB2 := hidden B2
  clear B1 B2
  refine wp_region_any (by kernel_rfl) ?_
  change wpAny _ _ _ _ _ _ _ (World.drew _)
  refine wpAny_take (i := 0) (v := .slice (some ⟨g1, 0, none⟩) 32 32) rfl (by kernel_rfl) (by kernel_rfl) (by kernel_rfl) (fun _ _ _ h => h) (Or.inl ⟨by rfl, fun w => by go_simp⟩) ?_
  simp only [Act.put, List.getElem_toArray, List.getElem_cons_zero, List.setIfInBounds_toArray, List.set_cons_zero, List.set_cons_succ]
  refine wpAny_take (i := 1) (v := .slice (some ⟨g2, 0, none⟩) 32 32) rfl (by kernel_rfl) (by kernel_rfl) (by kernel_rfl) (fun _ _ _ h => h) (Or.inl ⟨by rfl, fun w => by go_simp⟩) ?_
  simp only [Act.put, List.getElem_toArray, List.getElem_cons_zero, List.getElem_cons_succ, List.setIfInBounds_toArray, List.set_cons_zero, List.set_cons_succ]
  refine wpAny_ready (rs := [2]) (by kernel_rfl) (by simp) ?_
  refine AllReady.cons rfl (fun K1 hK => ?_) AllReady.nil
  go_simp
  refine hK _ _ ?_
  clear hK K1
  refine wpAny_ready (rs := [3]) (by kernel_rfl) (by simp) ?_
  refine AllReady.cons rfl (fun K1 hK => ?_) AllReady.nil
  go_simp
  refine (H.out w2.drew g1 g2 HB1.out HB2.out).mono ?_
  rintro e w3 ⟨u, sp, rfl, hO, hb⟩
  refine hK _ _ ?_
  clear hK K1
  refine wpAny_take (i := 4) (v := u) rfl (by kernel_rfl) (by kernel_rfl) (by kernel_rfl) (fun _ _ _ h => h) (Or.inl ⟨by rfl, fun w => by go_simp⟩) ?_
  refine wpAny_done (by kernel_rfl) ?_ _
  simp only [Act.put, List.getElem_toArray, List.getElem_cons_zero, List.getElem_cons_succ, List.setIfInBounds_toArray, List.set_cons_zero, List.set_cons_succ]
  have c3 : Below w.heap.size w w3 := c2.trans (((grow_trans (Below.refl _ _).drew (grow_trans (grow_alloc _ _) hb))).mono c2.size)
  have hO' := hO.mono (b' := w.heap.size) (Nat.le_trans c2.size (grow_alloc w2.drew _).size)
  clear hO hb
  go_wp2
  go_ret
  exact ⟨_, sp, rfl, hO', c3⟩

end Go.Proofs.YtacfhkaihcclaaaDoor
