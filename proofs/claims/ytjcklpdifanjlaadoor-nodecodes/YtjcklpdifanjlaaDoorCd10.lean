/- Texts that were just made: where they lie; lists of such texts. -/
import Derived.Test.YtjcklpdifanjlaaDoorCd09
import Derived.Test.YtjcklpdifanjlaaDoorCd04
import Derived.Deep.RegionHeld2
namespace Go.Proofs.YtjcklpdifanjlaaDoor
set_option maxRecDepth 20000
open Go.RowKit

/-- What a call leaves that tells a new text of n bytes. -/
def TxtPost (zs : List Int) (n : Nat) (w : World) (e : Ending) (w' : World) : Prop :=
  ∃ g c sp, e = .returned (.slice (some ⟨g, 0, none⟩) n c) ∧ w.heap.size ≤ g ∧ g < w'.heap.size ∧ Own w.heap.size w' (.slice (some ⟨g, 0, none⟩) n c) zs sp ∧ Below w.heap.size w w'

theorem txt_of_join {zs : List Int} {n : Nat} {w : World} {e : Ending} {w' : World} (hn : zs.length = n) (hp : 0 < n) (h : JoinPost zs w e w') : TxtPost zs n w e w' := by
  obtain ⟨v, sp, rfl, hO, hb⟩ := h
  subst hn
  have hl := hO.lt
  obtain ⟨h1, h2, h3, h4⟩ := hO
  rcases h4 with ⟨_, rfl, _⟩ | ⟨g, rest, hg, rfl, h5⟩
  · simp at hp
  · exact ⟨g, _, sp, rfl, hg, (hl g rfl).2, ⟨h1, h2, h3, .inr ⟨g, rest, hg, rfl, h5⟩⟩, hb⟩

theorem emptyText_new (w : World) : Calls Tryd.prog 43 #[] w (TxtPost [0] 1 w) := (emptyText_any w).mono fun _ _ h => txt_of_join rfl (by omega) h

theorem leafText_new (K A : List Int) (w : World) (hk : K.length = 32) (ha : A.length = 32) (bk : Bytes K) (ba : Bytes A) : Calls Tryd.prog 41 #[.agg (B K), .agg (B A)] w (TxtPost (1 :: (K ++ A)) 65 w) :=
  (leafText_any K A w hk ha bk ba).mono fun _ _ h => txt_of_join (by simp [hk, ha]) (by omega) h

theorem innerText_new (K A : List Int) (w : World) (hk : K.length = 32) (ha : A.length = 32) (bk : Bytes K) (ba : Bytes A) : Calls Tryd.prog 42 #[.agg (B K), .agg (B A)] w (TxtPost (2 :: (K ++ A)) 65 w) :=
  (innerText_any K A w hk ha bk ba).mono fun _ _ h => txt_of_join (by simp [hk, ha]) (by omega) h

theorem refLeafText_new (K A : List Int) (w : World) (hk : K.length = 32) (ha : A.length = 32) (bk : Bytes K) (ba : Bytes A) : Calls Tryd.prog 44 #[.agg (B K), .agg (B A)] w (TxtPost (1 :: (K ++ A)) 65 w) :=
  (refLeafText_any K A w hk ha bk ba).mono fun _ _ h => txt_of_join (by simp [hk, ha]) (by omega) h

theorem refInnerText_new (K A : List Int) (w : World) (hk : K.length = 32) (ha : A.length = 32) (bk : Bytes K) (ba : Bytes A) : Calls Tryd.prog 45 #[.agg (B K), .agg (B A)] w (TxtPost (2 :: (K ++ A)) 65 w) :=
  (refInnerText_any K A w hk ha bk ba).mono fun _ _ h => txt_of_join (by simp [hk, ha]) (by omega) h

theorem refText_new (t : Int) (v : Value) (ps : List (List Int)) (n : Nat) (w : World) (h0 : 0 ≤ t) (h1 : t ≤ 255) (h : Parts w v ps) (hl : 1 + ps.flatten.length ≤ 140737488355328) (hn : ps.flatten.length + 1 = n) :
    Calls Tryd.prog 72 #[.int .u8 t, v] w (TxtPost (t :: ps.flatten) n w) := (refText_any t v ps w h0 h1 h hl).mono fun _ _ h => txt_of_join hn (by omega) h

theorem refText_one (v : Value) (zs : List Int) (w : World) (h : Parts w v [zs]) (hl : zs.length < 140737488355328) : Calls Tryd.prog 72 #[.int .u8 3, v] w (TxtPost (3 :: zs) (zs.length + 1) w) := by
  have h1 := refText_new 3 v [zs] (zs.length + 1) w (by omega) (by omega) h (by simp; omega) (by simp)
  rw [show [zs].flatten = zs by simp] at h1
  exact h1

theorem refText_nil (w : World) : Calls Tryd.prog 72 #[.int .u8 0, .slice none 0 0] w (TxtPost [0] 1 w) := refText_new 0 _ [] 1 w (by omega) (by omega) (parts_nil w) (by simp) rfl

theorem Parts.grow {w w' : World} {v : Value} {ps : List (List Int)} (h : Parts w v ps) (hb : Below w.heap.size w w') : Parts w' v ps := by
  obtain ⟨a, cap, V, rfl, h1, h2, h3, h4⟩ := h
  refine ⟨a, cap, V, rfl, h1, h2, fun hp => ?_, fun i hi => (h4 i hi).grow hb⟩
  obtain ⟨b, off, e, hc⟩ := h3 hp
  exact ⟨b, off, e, fun i hi => (hb.cell (p := ⟨b, off + i, none⟩) (block_lt_of_cell (hc i hi))).trans (hc i hi)⟩

/-- A new list of values that read as these bytes. -/
theorem parts_new (w : World) (vs : List Value) (ps : List (List Int)) (n : Nat) (hn : ps.length = n) (hv : vs.length = n) (hp : n ≤ 140737488355328) (h : ∀ i, i < n → Reads w (vs.getD i undef) (ps.getD i [])) :
    Parts (w.alloc (.cells vs.toArray 28)) (.slice (some ⟨w.heap.size, 0, none⟩) n n) ps := by
  subst hn
  refine ⟨_, ps.length, fun i => vs.getD i undef, rfl, Nat.le_refl _, hp, fun _ => ⟨w.heap.size, 0, rfl, fun i hi => ?_⟩, fun i hi => (h i hi).grow (grow_alloc w _)⟩
  have hr : (w.alloc (.cells vs.toArray 28)).heap[w.heap.size]? = some (.cells vs.toArray 28 (0, 0)) := heap_alloc_new w _
  rw [cell_of_row _ _ _ _ _ _ hr]
  simp [List.getD, hv, hi]

end Go.Proofs.YtjcklpdifanjlaaDoor

/- sha.Step, as a contract: the block step. -/
namespace Go.Proofs.YtjcklpdifanjlaaDoor
set_option maxRecDepth 20000
open Go.RowKit

theorem zip_set (h v : List Int) (k : Nat) (hh : k < h.length) (hv : k < v.length) : ((List.zipWith ad h v).take k ++ h.drop k).set k (ad (((List.zipWith ad h v).take k ++ h.drop k).getD k 0) (v.getD k 0)) = (List.zipWith ad h v).take (k + 1) ++ h.drop (k + 1) := by
  have hl : ((List.zipWith ad h v).take k).length = k := by simp; omega
  have e : h.drop k = h[k] :: h.drop (k + 1) := List.drop_eq_getElem_cons hh
  have e1 : ((List.zipWith ad h v).take k ++ h.drop k).getD k 0 = h[k] := by
    rw [List.getD, List.getElem?_append_right (by omega), hl, Nat.sub_self, e]
    rfl
  rw [e1, e, List.set_append_right _ _ (by omega), hl, Nat.sub_self, List.set_cons_zero, List.take_succ_eq_append_getElem (by simp; omega)]
  simp [List.getD, hv]

set_option maxHeartbeats 1000000 in
theorem step_any (h bs : List Int) (w : World) (hL : Laid w) (hh : h.length = 8) (hb : bs.length = 64) (hby : Bytes bs) :
    Calls Tryd.prog 86 #[.agg (U h), .agg (B bs)] w fun e w' => e = .returned (.agg (U (stp h bs))) ∧ Below w.heap.size w w' := by
  obtain ⟨a, b, c, d, e, f, g, k, hvv⟩ := eight h hh
  have HV : Hid (h = [a, b, c, d, e, f, g, k]) := hvv
  clear hvv
  have HL := hidden hL
  have HH := hidden hh
  have HB := hidden hb
  have HBY := hidden hby
  clear hL hh hb hby
  go_enter Tryd.func86, Tryd.ntmps86
  go_wp2_with (first | (have hh1 := hl1; clear hh1; refine wpList_bx _ rfl _ _ rfl _ rfl ?_; intro w2 g2 hg2 hl2 B2 b2) | (refine wpList_bx _ rfl _ _ rfl _ rfl ?_; intro w1 g1 hg1 hl1 B1 b1) | (refine wpList_al _ rfl _ rfl _ zero_w8 ?_; intro w3 g3 hg3 hl3 B3 b3))
  have s1 := b1.size
  have s2 := b2.size
  have s3 := b3.size
  have HB1 := hidden ((B1.grow b2).grow b3)
  have HB2 := hidden (B2.grow b3)
  have HB3 := hidden B3
  have hbl := (b1.trans (b2.mono s1)).trans (b3.mono (Nat.le_trans s1 s2))
  clear B1 B2 B3 b1 b2 b3
  have n1 : w.heap.size ≤ g1 := by omega
  have n3 : w.heap.size ≤ g3 := by omega
  have n13 : g1 ≠ g3 := by omega
  clear hg1 hg2 hg3 hl1 hl2 hl3 s1 s2 s3
  have HL3 := hidden (HL.out.grow hbl)
  have HLG : Hid (∀ w', Below w3.heap.size w3 w' → Laid w') := fun w' hw => HL3.out.grow hw
  have HS : Hid (∀ w', Below w3.heap.size w3 w' → w'.rangeAt g2 0 (B bs).toList ∧ w'.cell? ⟨g1, 0, none⟩ = some (.int .u32 a) ∧ w'.cell? ⟨g1, 1, none⟩ = some (.int .u32 b) ∧ w'.cell? ⟨g1, 2, none⟩ = some (.int .u32 c) ∧ w'.cell? ⟨g1, 3, none⟩ = some (.int .u32 d) ∧ w'.cell? ⟨g1, 4, none⟩ = some (.int .u32 e) ∧ w'.cell? ⟨g1, 5, none⟩ = some (.int .u32 f) ∧ w'.cell? ⟨g1, 6, none⟩ = some (.int .u32 g) ∧ w'.cell? ⟨g1, 7, none⟩ = some (.int .u32 k)) := by
    intro w' hw'
    have h1 := HB1.out.grow hw'
    rw [HV.out] at h1
    exact ⟨(HB2.out.grow hw').range, h1.eight⟩
  have hu64 : Tryd.prog.underlying 127 = some (.array 64 5) := Tryd.underlying127
  have hi64 : (Tryd.prog.info? 127).map (·.size) = some (B bs).toList.length := by rw [B_toList, List.length_map, HB.out]; exact size_b64
  have hd0 : Below w3.heap.size w3 w3.drew := (Below.refl _ _).drew
  go_region_held2 (fun w' => w'.rangeAt g2 0 (B bs).toList ∧ w'.cell? ⟨g1, 0, none⟩ = some (.int .u32 a) ∧ w'.cell? ⟨g1, 1, none⟩ = some (.int .u32 b) ∧ w'.cell? ⟨g1, 2, none⟩ = some (.int .u32 c) ∧ w'.cell? ⟨g1, 3, none⟩ = some (.int .u32 d) ∧ w'.cell? ⟨g1, 4, none⟩ = some (.int .u32 e) ∧ w'.cell? ⟨g1, 5, none⟩ = some (.int .u32 f) ∧ w'.cell? ⟨g1, 6, none⟩ = some (.int .u32 g) ∧ w'.cell? ⟨g1, 7, none⟩ = some (.int .u32 k))
    (first | exact HS.out _ (by assumption))
    (first | (go_at_call 98; refine (schedule_any bs _ HBY.out HB.out).mono ?_; rintro e w4 ⟨rfl, hb4⟩; have hbd := grow_trans hd0 hb4) | (go_at_call 97; refine (mixed_any [a, b, c, d, e, f, g, k] (sch bs 64) _ (HLG.out _ hbd) rfl (sch_length _ _)).mono ?_; rintro e w5 ⟨rfl, hb5⟩; have hbe := grow_trans hbd hb5))
  have hb5' : Below w.heap.size w w5 := hbl.trans (hbe.mono hbl.size)
  have HB1' : Hid (Blk w5 g1 115 (U h)) := HB1.out.grow hbe
  have HB3' : Hid (Blk w5 g3 115 (U (List.replicate 8 0))) := HB3.out.grow hbe
  have HX : Hid (rds (sch bs 64) [a, b, c, d, e, f, g, k] 64 = rds (sch bs 64) h 64) := by rw [HV.out]; exact rfl
  rw [HX.out]
  have HY : Hid (stp h bs = List.zipWith ad h (rds (sch bs 64) h 64)) := rfl
  have HZ : Hid ((rds (sch bs 64) h 64).length = 8) := rds_length _ _ HH.out _
  generalize rds (sch bs 64) h 64 = v at *
  clear HB1 HB2 HB3 hbl HS HLG HL3 HL hi64 hu64 hd0 hb4 hbd hb5 hbe HX HV
  go_wp2_with fail
  go_loopw [11] (fun i wr => ∃ k : Nat, k ≤ 8 ∧ i = .int .i64 k ∧ Hid (Blk wr g1 115 (U ((List.zipWith ad h v).take k ++ h.drop k))) ∧ Hid (Blk wr g3 115 (U (List.replicate 8 0))) ∧ Below w.heap.size w wr) (fun i _ => 8 - (intOf i).toNat)
  case atStart => exact ⟨0, by omega, rfl, by simpa using HB1', HB3', hb5'⟩
  case round =>
    clear HB1' HB3' hb5'
    obtain ⟨k, hk, rfl, hB1, hB3, hbl⟩ := hrel
    by_cases hlt : k < 8
    · have k0 : (0 : Int) ≤ (k : Int) := by omega
      have k1 : (k : Int) < 8 := by omega
      have c1 := hB1.out.wcell k (by have := HH.out; have := HZ.out; simp; omega)
      have f1 := hB1.out.frozen k
      have hix := index_w8 v k HZ.out hlt
      have HE : Hid (((List.zipWith ad h v).take k ++ h.drop k).set k (ad (((List.zipWith ad h v).take k ++ h.drop k).getD k 0) (v.getD k 0)) = (List.zipWith ad h v).take (k + 1) ++ h.drop (k + 1)) := zip_set h v k (by have := HH.out; omega) (by have := HZ.out; omega)
      generalize ((List.zipWith ad h v).take k ++ h.drop k).getD k 0 = x at *
      generalize v.getD k 0 = y at *
      go_wp2_with fail
      have hn := hB1.out.set k (.int .u32 (ad x y))
      rw [U_set, HE.out] at hn
      exact ⟨⟨k + 1, by omega, by go_num, hn, hB3.out.other _ _ (Ne.symm n13), setCell_below _ _ hbl n1⟩, by simp [intOf]; omega⟩
    · have HF : Hid (Blk wr g1 115 (U (stp h bs))) := by
        have : Blk wr g1 115 (U ((List.zipWith ad h v).take k ++ h.drop k)) := hB1.out
        rw [List.take_of_length_le (by have := HH.out; have := HZ.out; simp; omega), List.drop_of_length_le (by have := HH.out; omega), List.append_nil, ← HY.out] at this
        exact this
      have HS : Hid ((U (stp h bs)).size = 8) := by rw [U_size]; exact stp_length _ _ HH.out
      go_wp2_with (first | (refine wpList_ld _ rfl _ _ rfl g1 _ rfl HF.out 8 _ Tryd.underlying115 (by rw [HS.out]; exact size_w8) ?_) | (refine wpList_st _ rfl _ _ _ rfl g3 _ _ rfl rfl hB3.out (by rw [HS.out]; exact size_w8) (by rw [HS.out, U_size]; simp) (U_one _) ?_))
      exact bodyPost_ret (v := .agg (U (stp h bs))) (results_cell_row rfl _ _ g3 _ _ _ _ rfl (hB3.out.row _) Tryd.underlying115 rfl (by rw [HS.out]; exact size_w8)) rfl ⟨rfl, setRow_below _ hbl n3⟩

end Go.Proofs.YtjcklpdifanjlaaDoor
