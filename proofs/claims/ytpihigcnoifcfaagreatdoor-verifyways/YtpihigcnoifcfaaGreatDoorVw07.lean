/- tag's EmptyText, ValueText, LeafText, InnerText and the document's texts, as contracts. -/
import Derived.Test.YtpihigcnoifcfaaGreatDoorVw06
import Derived.Test.YtpihigcnoifcfaaGreatDoorVw04
import Derived.Deep.RegionHeld2
import Derived.Test.YtpihigcnoifcfaaGreatDoorProg
import Derived.Test.YtpihigcnoifcfaaGreatDoorVw03
import Derived.BigQuiet
namespace Go.Proofs.YtpihigcnoifcfaaGreatDoor
set_option maxRecDepth 20000
open Go.RowKit

theorem parts_nil (w : World) : Parts w (.slice none 0 0) [] := ⟨none, 0, fun _ => .slice none 0 0, rfl, by simp, by simp, fun h => by simp at h, fun i hi => by simp at hi⟩

theorem parts_one (w : World) (v : Value) (zs : List Int) (h : Reads w v zs) : Parts (w.alloc (.cells #[v] 26)) (.slice (some ⟨w.heap.size, 0, none⟩) 1 1) [zs] := by
  refine ⟨_, 1, fun _ => v, rfl, Nat.le_refl _, by simp, fun _ => ⟨w.heap.size, 0, rfl, fun i hi => ?_⟩, fun i hi => ?_⟩
  · have hr : (w.alloc (.cells #[v] 26)).heap[w.heap.size]? = some (.cells #[v] 26 (0, 0)) := heap_alloc_new w _
    rw [cell_of_row _ _ _ _ _ _ hr]
    match i, hi with
    | 0, _ => rfl
  · match i, hi with
    | 0, _ => exact h.grow (grow_alloc w _)

theorem parts_two (w : World) (v u : Value) (zs ys : List Int) (h : Reads w v zs) (k : Reads w u ys) : Parts (w.alloc (.cells #[v, u] 26)) (.slice (some ⟨w.heap.size, 0, none⟩) 2 2) [zs, ys] := by
  refine ⟨_, 2, fun i => if i = 0 then v else u, rfl, Nat.le_refl _, by simp, fun _ => ⟨w.heap.size, 0, rfl, fun i hi => ?_⟩, fun i hi => ?_⟩
  · have hr : (w.alloc (.cells #[v, u] 26)).heap[w.heap.size]? = some (.cells #[v, u] 26 (0, 0)) := heap_alloc_new w _
    rw [cell_of_row _ _ _ _ _ _ hr]
    match i, hi with
    | 0, _ => rfl
    | 1, _ => rfl
  · match i, hi with
    | 0, _ => exact h.grow (grow_alloc w _)
    | 1, _ => exact k.grow (grow_alloc w _)

theorem Blk.readsN {w : World} {g : Nat} {t : TypeId} {zs : List Int} (h : Blk w g t (B zs)) (hb : Bytes zs) (n : Nat) (hn : zs.length = n) : Reads w (.slice (some ⟨g, 0, none⟩) n n) zs := by
  subst hn
  exact ⟨_, _, rfl, Nat.le_refl _, fun h => by simp at h, hb, fun _ => ⟨g, 0, rfl, fun i hi => by rw [Nat.zero_add]; exact h.bcell i hi⟩⟩

set_option maxHeartbeats 400000 in
theorem emptyText_any (w : World) : Calls Tryz.prog 51 #[] w (JoinPost [0] w) := by
  have H := hidden (text_any 0 _ [] w (by omega) (by omega) (parts_nil w) (by simp))
  go_enter Tryz.func51, Tryz.ntmps51
  go_wp2_with (go_at_call 29; refine H.out.mono ?_; rintro e w1 ⟨v, sp, rfl, hO, hb⟩)
  go_ret
  exact ⟨_, sp, rfl, hO, hb⟩

set_option maxHeartbeats 400000 in
theorem valueText_any (v : Value) (zs : List Int) (w : World) (h : Reads w v zs) (hl : zs.length < 140737488355328) : Calls Tryz.prog 11 #[v] w (JoinPost (3 :: zs) w) := by
  have H := hidden (text_any 3 _ [zs] _ (by omega) (by omega) (parts_one w v zs h) (by simp; omega))
  have HE : Hid ([zs].flatten = zs) := by show _ = _; simp
  rw [HE.out] at H
  obtain ⟨a, c, rfl, _, _, _, _⟩ := h
  go_enter Tryz.func11, Tryz.ntmps11
  go_wp2_with (go_at_call 29; refine H.out.mono ?_; rintro e w1 ⟨u, sp, rfl, hO, hb⟩)
  go_ret
  exact ⟨_, sp, rfl, hO.mono (grow_alloc _ _).size, grow_trans (grow_alloc _ _) hb⟩

set_option maxHeartbeats 1000000 in
theorem leafText_any (K A : List Int) (w : World) (hk : K.length = 32) (ha : A.length = 32) (bk : Bytes K) (ba : Bytes A) : Calls Tryz.prog 49 #[.agg (B K), .agg (B A)] w (JoinPost (1 :: (K ++ A)) w) := by
  have H : Hid (∀ w' g1 g2, Blk w' g1 24 (B K) → Blk w' g2 25 (B A) → Calls Tryz.prog 29 #[.int .u8 1, .slice (some ⟨w'.heap.size, 0, none⟩) 2 2] (w'.alloc (.cells #[.slice (some ⟨g1, 0, none⟩) 32 32, .slice (some ⟨g2, 0, none⟩) 32 32] 26)) (JoinPost (1 :: (K ++ A)) (w'.alloc (.cells #[.slice (some ⟨g1, 0, none⟩) 32 32, .slice (some ⟨g2, 0, none⟩) 32 32] 26)))) := by
    intro w' g1 g2 B1 B2
    have := text_any 1 _ [K, A] _ (by omega) (by omega) (parts_two w' _ _ K A (B1.readsN bk 32 hk) (B2.readsN ba 32 ha)) (by simp [hk, ha])
    rw [show [K, A].flatten = K ++ A by simp] at this
    exact this
  clear bk ba hk ha
  go_enter Tryz.func49, Tryz.ntmps49
  go_wp2_with (first | (have hx := hl1; clear hx; refine wpList_bx _ rfl _ _ rfl _ rfl ?_; intro w2 g2 hg2 hl2 B2 b2) | (refine wpList_bx _ rfl _ _ rfl _ rfl ?_; intro w1 g1 hg1 hl1 B1 b1))
  have c2 := b1.trans (b2.mono b1.size)
  have HB1 := hidden (B1.grow b2)
  have HB2 := hidden B2
  clear B1 B2
  refine wp_region_any (by kernel_rfl) ?_
  change wpAny _ _ _ _ _ _ _ (World.drew _)
  refine wpAny_take (i := 0) (v := .slice (some ⟨g1, 0, none⟩) 32 32) rfl (by kernel_rfl) (by kernel_rfl) (by kernel_rfl) (fun _ _ _ h => h) (Or.inl ⟨by rfl, fun w => by go_simp⟩) ?_
  simp only [Act.put, List.getElem_toArray, List.getElem_cons_zero, List.setIfInBounds_toArray, List.set_cons_zero, List.set_cons_succ]
  refine wpAny_take (i := 1) (v := .slice (some ⟨g2, 0, none⟩) 32 32) rfl (by kernel_rfl) (by kernel_rfl) (by kernel_rfl) (fun _ _ _ h => h) (Or.inl ⟨by rfl, fun w => by go_simp⟩) ?_
  simp only [Act.put, List.getElem_toArray, List.getElem_cons_zero, List.getElem_cons_succ, List.setIfInBounds_toArray, List.set_cons_zero, List.set_cons_succ]
  refine wpAny_ready (rs := [2]) (by kernel_rfl) (by simp) ?_
  refine AllReady.cons rfl (fun K1 hK => ?_) AllReady.nil
  go_simp
  refine hK _ _ ?_
  clear hK K1
  refine wpAny_ready (rs := [3]) (by kernel_rfl) (by simp) ?_
  refine AllReady.cons rfl (fun K1 hK => ?_) AllReady.nil
  go_simp
  refine (H.out w2.drew g1 g2 HB1.out HB2.out).mono ?_
  rintro e w3 ⟨u, sp, rfl, hO, hb⟩
  refine hK _ _ ?_
  clear hK K1
  refine wpAny_take (i := 4) (v := u) rfl (by kernel_rfl) (by kernel_rfl) (by kernel_rfl) (fun _ _ _ h => h) (Or.inl ⟨by rfl, fun w => by go_simp⟩) ?_
  refine wpAny_done (by kernel_rfl) ?_ _
  simp only [Act.put, List.getElem_toArray, List.getElem_cons_zero, List.getElem_cons_succ, List.setIfInBounds_toArray, List.set_cons_zero, List.set_cons_succ]
  have c3 : Below w.heap.size w w3 := c2.trans (((grow_trans (Below.refl _ _).drew (grow_trans (grow_alloc _ _) hb))).mono c2.size)
  have hO' := hO.mono (b' := w.heap.size) (Nat.le_trans c2.size (grow_alloc w2.drew _).size)
  clear hO hb
  go_wp2
  go_ret
  exact ⟨_, sp, rfl, hO', c3⟩

set_option maxHeartbeats 1000000 in
theorem innerText_any (K A : List Int) (w : World) (hk : K.length = 32) (ha : A.length = 32) (bk : Bytes K) (ba : Bytes A) : Calls Tryz.prog 50 #[.agg (B K), .agg (B A)] w (JoinPost (2 :: (K ++ A)) w) := by
  have H : Hid (∀ w' g1 g2, Blk w' g1 25 (B K) → Blk w' g2 25 (B A) → Calls Tryz.prog 29 #[.int .u8 2, .slice (some ⟨w'.heap.size, 0, none⟩) 2 2] (w'.alloc (.cells #[.slice (some ⟨g1, 0, none⟩) 32 32, .slice (some ⟨g2, 0, none⟩) 32 32] 26)) (JoinPost (2 :: (K ++ A)) (w'.alloc (.cells #[.slice (some ⟨g1, 0, none⟩) 32 32, .slice (some ⟨g2, 0, none⟩) 32 32] 26)))) := by
    intro w' g1 g2 B1 B2
    have := text_any 2 _ [K, A] _ (by omega) (by omega) (parts_two w' _ _ K A (B1.readsN bk 32 hk) (B2.readsN ba 32 ha)) (by simp [hk, ha])
    rw [show [K, A].flatten = K ++ A by simp] at this
    exact this
  clear bk ba hk ha
  go_enter Tryz.func50, Tryz.ntmps50
  go_wp2_with (first | (have hx := hl1; clear hx; refine wpList_bx _ rfl _ _ rfl _ rfl ?_; intro w2 g2 hg2 hl2 B2 b2) | (refine wpList_bx _ rfl _ _ rfl _ rfl ?_; intro w1 g1 hg1 hl1 B1 b1))
  have c2 := b1.trans (b2.mono b1.size)
  have HB1 := hidden (B1.grow b2)
  have HB2 := hidden B2
  clear B1 B2
  refine wp_region_any (by kernel_rfl) ?_
  change wpAny _ _ _ _ _ _ _ (World.drew _)
  refine wpAny_take (i := 0) (v := .slice (some ⟨g1, 0, none⟩) 32 32) rfl (by kernel_rfl) (by kernel_rfl) (by kernel_rfl) (fun _ _ _ h => h) (Or.inl ⟨by rfl, fun w => by go_simp⟩) ?_
  simp only [Act.put, List.getElem_toArray, List.getElem_cons_zero, List.setIfInBounds_toArray, List.set_cons_zero, List.set_cons_succ]
  refine wpAny_take (i := 1) (v := .slice (some ⟨g2, 0, none⟩) 32 32) rfl (by kernel_rfl) (by kernel_rfl) (by kernel_rfl) (fun _ _ _ h => h) (Or.inl ⟨by rfl, fun w => by go_simp⟩) ?_
  simp only [Act.put, List.getElem_toArray, List.getElem_cons_zero, List.getElem_cons_succ, List.setIfInBounds_toArray, List.set_cons_zero, List.set_cons_succ]
  refine wpAny_ready (rs := [2]) (by kernel_rfl) (by simp) ?_
  refine AllReady.cons rfl (fun K1 hK => ?_) AllReady.nil
  go_simp
  refine hK _ _ ?_
  clear hK K1
  refine wpAny_ready (rs := [3]) (by kernel_rfl) (by simp) ?_
  refine AllReady.cons rfl (fun K1 hK => ?_) AllReady.nil
  go_simp
  refine (H.out w2.drew g1 g2 HB1.out HB2.out).mono ?_
  rintro e w3 ⟨u, sp, rfl, hO, hb⟩
  refine hK _ _ ?_
  clear hK K1
  refine wpAny_take (i := 4) (v := u) rfl (by kernel_rfl) (by kernel_rfl) (by kernel_rfl) (fun _ _ _ h => h) (Or.inl ⟨by rfl, fun w => by go_simp⟩) ?_
  refine wpAny_done (by kernel_rfl) ?_ _
  simp only [Act.put, List.getElem_toArray, List.getElem_cons_zero, List.getElem_cons_succ, List.setIfInBounds_toArray, List.set_cons_zero, List.set_cons_succ]
  have c3 : Below w.heap.size w w3 := c2.trans (((grow_trans (Below.refl _ _).drew (grow_trans (grow_alloc _ _) hb))).mono c2.size)
  have hO' := hO.mono (b' := w.heap.size) (Nat.le_trans c2.size (grow_alloc w2.drew _).size)
  clear hO hb
  go_wp2
  go_ret
  exact ⟨_, sp, rfl, hO', c3⟩

end Go.Proofs.YtpihigcnoifcfaaGreatDoor

/- Texts that were just made: where they lie; lists of such texts. -/
namespace Go.Proofs.YtpihigcnoifcfaaGreatDoor
set_option maxRecDepth 20000
open Go.RowKit

/-- What a call leaves that tells a new text of n bytes. -/
def TxtPost (zs : List Int) (n : Nat) (w : World) (e : Ending) (w' : World) : Prop :=
  ∃ g c sp, e = .returned (.slice (some ⟨g, 0, none⟩) n c) ∧ w.heap.size ≤ g ∧ g < w'.heap.size ∧ Own w.heap.size w' (.slice (some ⟨g, 0, none⟩) n c) zs sp ∧ Below w.heap.size w w'

theorem txt_of_join {zs : List Int} {n : Nat} {w : World} {e : Ending} {w' : World} (hn : zs.length = n) (hp : 0 < n) (h : JoinPost zs w e w') : TxtPost zs n w e w' := by
  obtain ⟨v, sp, rfl, hO, hb⟩ := h
  subst hn
  have hl := hO.lt
  obtain ⟨h1, h2, h3, h4⟩ := hO
  rcases h4 with ⟨_, rfl, _⟩ | ⟨g, rest, hg, rfl, h5⟩
  · simp at hp
  · exact ⟨g, _, sp, rfl, hg, (hl g rfl).2, ⟨h1, h2, h3, .inr ⟨g, rest, hg, rfl, h5⟩⟩, hb⟩

theorem emptyText_new (w : World) : Calls Tryz.prog 51 #[] w (TxtPost [0] 1 w) := (emptyText_any w).mono fun _ _ h => txt_of_join rfl (by omega) h

theorem valueText_new (v : Value) (zs : List Int) (w : World) (h : Reads w v zs) (hl : zs.length < 140737488355328) : Calls Tryz.prog 11 #[v] w (TxtPost (3 :: zs) (zs.length + 1) w) :=
  (valueText_any v zs w h hl).mono fun _ _ h => txt_of_join rfl (by omega) h

theorem leafText_new (K A : List Int) (w : World) (hk : K.length = 32) (ha : A.length = 32) (bk : Bytes K) (ba : Bytes A) : Calls Tryz.prog 49 #[.agg (B K), .agg (B A)] w (TxtPost (1 :: (K ++ A)) 65 w) :=
  (leafText_any K A w hk ha bk ba).mono fun _ _ h => txt_of_join (by simp [hk, ha]) (by omega) h

theorem innerText_new (K A : List Int) (w : World) (hk : K.length = 32) (ha : A.length = 32) (bk : Bytes K) (ba : Bytes A) : Calls Tryz.prog 50 #[.agg (B K), .agg (B A)] w (TxtPost (2 :: (K ++ A)) 65 w) :=
  (innerText_any K A w hk ha bk ba).mono fun _ _ h => txt_of_join (by simp [hk, ha]) (by omega) h

theorem Parts.grow {w w' : World} {v : Value} {ps : List (List Int)} (h : Parts w v ps) (hb : Below w.heap.size w w') : Parts w' v ps := by
  obtain ⟨a, cap, V, rfl, h1, h2, h3, h4⟩ := h
  refine ⟨a, cap, V, rfl, h1, h2, fun hp => ?_, fun i hi => (h4 i hi).grow hb⟩
  obtain ⟨b, off, e, hc⟩ := h3 hp
  exact ⟨b, off, e, fun i hi => (hb.cell (p := ⟨b, off + i, none⟩) (block_lt_of_cell (hc i hi))).trans (hc i hi)⟩

/-- A new list of values that read as these bytes. -/
theorem parts_new (w : World) (vs : List Value) (ps : List (List Int)) (n : Nat) (hn : ps.length = n) (hv : vs.length = n) (hp : n ≤ 140737488355328) (h : ∀ i, i < n → Reads w (vs.getD i undef) (ps.getD i [])) :
    Parts (w.alloc (.cells vs.toArray 26)) (.slice (some ⟨w.heap.size, 0, none⟩) n n) ps := by
  subst hn
  refine ⟨_, ps.length, fun i => vs.getD i undef, rfl, Nat.le_refl _, hp, fun _ => ⟨w.heap.size, 0, rfl, fun i hi => ?_⟩, fun i hi => (h i hi).grow (grow_alloc w _)⟩
  have hr : (w.alloc (.cells vs.toArray 26)).heap[w.heap.size]? = some (.cells vs.toArray 26 (0, 0)) := heap_alloc_new w _
  rw [cell_of_row _ _ _ _ _ _ hr]
  simp [List.getD, hv, hi]

end Go.Proofs.YtpihigcnoifcfaaGreatDoor

/- The small functions of sha, and of the document's answer, on words, as contracts. -/
namespace Go.Proofs.YtpihigcnoifcfaaGreatDoor
set_option maxRecDepth 20000
open Go.RowKit

set_option maxHeartbeats 400000 in
theorem turn_any (x n : Int) (w : World) (h0 : 0 < n) (h : n < 32) :
    Calls Tryz.prog 110 #[.int .u32 x, .int .u64 n] w fun e w' => e = .returned (.int .u32 (rot x n)) ∧ w' = w := by
  go_enter Tryz.func110, Tryz.ntmps110
  go_wp2
  go_ret
  exact ⟨rfl, rfl⟩

set_option maxHeartbeats 400000 in
theorem choose_any (x y z : Int) (w : World) :
    Calls Tryz.prog 103 #[.int .u32 x, .int .u32 y, .int .u32 z] w fun e w' => e = .returned (.int .u32 (chs x y z)) ∧ w' = w := by
  have hs : IntKind.u32.signed = false := rfl
  go_enter Tryz.func103, Tryz.ntmps103
  go_wp2
  go_ret
  exact ⟨rfl, rfl⟩

set_option maxHeartbeats 400000 in
theorem majority_any (x y z : Int) (w : World) :
    Calls Tryz.prog 105 #[.int .u32 x, .int .u32 y, .int .u32 z] w fun e w' => e = .returned (.int .u32 (maj x y z)) ∧ w' = w := by
  go_enter Tryz.func105, Tryz.ntmps105
  go_wp2
  go_ret
  exact ⟨rfl, rfl⟩

set_option maxHeartbeats 400000 in
theorem mixLower_any (x : Int) (w : World) :
    Calls Tryz.prog 102 #[.int .u32 x] w fun e w' => e = .returned (.int .u32 (big1 x)) ∧ w' = w := by
  go_enter Tryz.func102, Tryz.ntmps102
  go_wp2_with (go_at_call 110; refine (turn_any _ _ _ (by omega) (by omega)).mono ?_; rintro e w' ⟨rfl, rfl⟩)
  go_ret
  exact ⟨rfl, rfl⟩

set_option maxHeartbeats 400000 in
theorem mixUpper_any (x : Int) (w : World) :
    Calls Tryz.prog 104 #[.int .u32 x] w fun e w' => e = .returned (.int .u32 (big0 x)) ∧ w' = w := by
  go_enter Tryz.func104, Tryz.ntmps104
  go_wp2_with (go_at_call 110; refine (turn_any _ _ _ (by omega) (by omega)).mono ?_; rintro e w' ⟨rfl, rfl⟩)
  go_ret
  exact ⟨rfl, rfl⟩

set_option maxHeartbeats 400000 in
theorem mixEarly_any (x : Int) (w : World) :
    Calls Tryz.prog 108 #[.int .u32 x] w fun e w' => e = .returned (.int .u32 (sm0 x)) ∧ w' = w := by
  go_enter Tryz.func108, Tryz.ntmps108
  go_wp2_with (go_at_call 110; refine (turn_any _ _ _ (by omega) (by omega)).mono ?_; rintro e w' ⟨rfl, rfl⟩)
  go_ret
  exact ⟨rfl, rfl⟩

set_option maxHeartbeats 400000 in
theorem mixLate_any (x : Int) (w : World) :
    Calls Tryz.prog 107 #[.int .u32 x] w fun e w' => e = .returned (.int .u32 (sm1 x)) ∧ w' = w := by
  go_enter Tryz.func107, Tryz.ntmps107
  go_wp2_with (go_at_call 110; refine (turn_any _ _ _ (by omega) (by omega)).mono ?_; rintro e w' ⟨rfl, rfl⟩)
  go_ret
  exact ⟨rfl, rfl⟩

theorem u32_or_nat (a b : Nat) (ha : a < 4294967296) (hb : b < 4294967296) : bits .or .u32 (a : Int) (b : Int) = ((a ||| b : Nat) : Int) := by
  have hx : a ||| b < 2 ^ 32 := Nat.or_lt_two_pow (by omega) (by omega)
  show IntKind.u32.wrap ((BitVec.ofInt 32 (a : Int) ||| BitVec.ofInt 32 (b : Int)).toNat : Int) = _
  have e : ∀ c : Nat, c < 4294967296 → (BitVec.ofInt 32 (c : Int)).toNat = c := by
    intro c hc
    rw [BitVec.toNat_ofInt]
    omega
  rw [BitVec.toNat_or, e a ha, e b hb]
  show (((a ||| b : Nat) : Int)) % 4294967296 = _
  omega

theorem u32_join (i : Nat) (a b : Int) (h1 : 0 ≤ a) (h2 : a < 4294967296) (h3 : 0 ≤ b) (h4 : b < 2 ^ i) (h5 : b < 4294967296) (hm : a.toNat % 2 ^ i = 0) : bits .or .u32 a b = a + b := by
  obtain ⟨A, rfl⟩ := Int.eq_ofNat_of_zero_le h1
  obtain ⟨B, rfl⟩ := Int.eq_ofNat_of_zero_le h3
  rw [u32_or_nat A B (by omega) (by omega), nat_join i A B (by simpa using hm) (by exact_mod_cast h4)]
  simp

theorem word_num (a b c d : Int) (ha : 0 ≤ a ∧ a ≤ 255) (hb : 0 ≤ b ∧ b ≤ 255) (hc : 0 ≤ c ∧ c ≤ 255) (hd : 0 ≤ d ∧ d ≤ 255) :
    bits .or .u32 (bits .or .u32 (bits .or .u32 (a * 16777216) (b * 65536)) (c * 256)) d = a * 16777216 + b * 65536 + c * 256 + d := by
  rw [u32_join 24 (a * 16777216) (b * 65536) (by omega) (by omega) (by omega) (by omega) (by omega) (by omega),
    u32_join 16 _ (c * 256) (by omega) (by omega) (by omega) (by omega) (by omega) (by omega),
    u32_join 8 _ d (by omega) (by omega) (by omega) (by omega) (by omega) (by omega)]

set_option maxHeartbeats 400000 in
theorem word_any (a b c d : Int) (w : World) (ha : 0 ≤ a ∧ a ≤ 255) (hb : 0 ≤ b ∧ b ≤ 255) (hc : 0 ≤ c ∧ c ≤ 255) (hd : 0 ≤ d ∧ d ≤ 255) :
    Calls Tryz.prog 106 #[.int .u8 a, .int .u8 b, .int .u8 c, .int .u8 d] w fun e w' => e = .returned (.int .u32 (a * 16777216 + b * 65536 + c * 256 + d)) ∧ w' = w := by
  have HE := hidden (word_num a b c d ha hb hc hd)
  go_enter Tryz.func106, Tryz.ntmps106
  go_wp2
  go_ret
  refine ⟨?_, rfl⟩
  rw [← HE.out]
  rfl

end Go.Proofs.YtpihigcnoifcfaaGreatDoor
