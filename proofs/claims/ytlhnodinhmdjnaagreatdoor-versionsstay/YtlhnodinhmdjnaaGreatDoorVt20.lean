/- ShaNil's walk: the law returns true at every b, and nothing that was in memory turns. -/
import Derived.Test.YtlhnodinhmdjnaaGreatDoorVt18
import Derived.Test.YtlhnodinhmdjnaaGreatDoorVt19
import Derived.Lib.SlBytesConst
import Derived.Test.YtlhnodinhmdjnaaGreatDoorVt17
import Derived.Laws.ResultCell
namespace Go.Proofs.YtlhnodinhmdjnaaGreatDoor
set_option maxRecDepth 20000
open Go.RowKit

theorem abc_reads (w : World) : Reads (w.alloc (.cells #[.int .u8 97, .int .u8 98, .int .u8 99] 5 (3, 4))) (.slice (some ⟨w.heap.size, 0, none⟩) 3 3) [97, 98, 99] := by
  refine ⟨_, 3, rfl, Nat.le_refl _, fun h => by simp at h, by intro z hz; simp at hz; omega, fun _ => ⟨w.heap.size, 0, rfl, ?_⟩⟩
  intro i hi
  have hr : (w.alloc (.cells #[.int .u8 97, .int .u8 98, .int .u8 99] 5 (3, 4))).heap[w.heap.size]? = some (.cells #[.int .u8 97, .int .u8 98, .int .u8 99] 5 (3, 4)) := heap_alloc_new w _
  rw [cell_of_row _ _ _ _ _ _ hr]
  match i, hi with
  | 0, _ => rfl
  | 1, _ => rfl
  | 2, _ => rfl

theorem abc_text : ((strOfNums (hx (dig [97, 98, 99]))).toList == [98, 97, 55, 56, 49, 54, 98, 102, 56, 102, 48, 49, 99, 102, 101, 97, 52, 49, 52, 49, 52, 48, 100, 101, 53, 100, 97, 101, 50, 50, 50, 51, 98, 48, 48, 51, 54, 49, 97, 51, 57, 54, 49, 55, 55, 97, 57, 99, 98, 52, 49, 48, 102, 102, 54, 49, 102, 50, 48, 48, 49, 53, 97, 100]) = true := by
  rw [dig_abc]
  kernel_rfl

theorem Blk.reads {w : World} {g : Nat} {t : TypeId} {zs : List Int} (h : Blk w g t (B zs)) (hb : Bytes zs) : Reads w (.slice (some ⟨g, 0, none⟩) zs.length zs.length) zs :=
  ⟨_, _, rfl, Nat.le_refl _, fun h => by simp at h, hb, fun _ => ⟨g, 0, rfl, fun i hi => by rw [Nat.zero_add]; exact h.bcell i hi⟩⟩

end Go.Proofs.YtlhnodinhmdjnaaGreatDoor

/- The document's digest (rootcellarref02.Sum), as a contract. -/
namespace Go.Proofs.YtlhnodinhmdjnaaGreatDoor
set_option maxRecDepth 20000
open Go.RowKit

theorem zero_b32' : ∀ w, (zeroValue 22).run Tryz.prog w = .ok (.agg (B (List.replicate 32 0))) w := Tryz.zeroValue22

theorem out_get (W : List Int) (i : Nat) (hi : i / 4 < W.length) : (out W).getD i 0 = W.getD (i / 4) 0 / 2 ^ (24 - 8 * (i % 4)) % 256 := by
  induction W generalizing i with
  | nil => simp at hi
  | cons a W ih =>
    have e : out (a :: W) = [a / 16777216 % 256, a / 65536 % 256, a / 256 % 256, a % 256] ++ out W := by simp [out]
    rw [e]
    by_cases h4 : i < 4
    · have hd : i / 4 = 0 := by omega
      rw [hd]
      match i, h4 with
      | 0, _ => simp
      | 1, _ => simp
      | 2, _ => simp
      | 3, _ => simp
    · obtain ⟨j, rfl⟩ : ∃ j, i = j + 4 := ⟨i - 4, by omega⟩
      have h1 := ih j (by simp at hi; omega)
      rw [show (j + 4) / 4 = j / 4 + 1 by omega, show (j + 4) % 4 = j % 4 by omega, List.getD_cons_succ, ← h1]
      simp [List.getD]

theorem Own.cells {base : Nat} {w : World} {a : Option Addr} {n c : Nat} {zs sp : List Int} (h : Own base w (.slice a n c) zs sp) (hp : 0 < zs.length) : ∃ g, a = some ⟨g, 0, none⟩ ∧ base ≤ g ∧ g < w.heap.size ∧ n = zs.length ∧ n ≤ c ∧ ∀ i, i < zs.length → w.cell? ⟨g, i, none⟩ = some (.int .u8 (zs.getD i 0)) := by
  obtain ⟨h1, h2, h3, h4⟩ := h
  rcases h4 with ⟨e, rfl, rfl⟩ | ⟨g, rest, hg, e, hr⟩
  · simp at hp
  · injection e with e1 e2 e3
    subst e1
    refine ⟨g, rfl, hg, hr.lt, e2, by omega, fun i hi => ?_⟩
    rw [hr.cell i (by simp; omega), List.append_assoc]
    simp [List.getD, List.getElem?_append_left hi]

theorem whole_over (xs ys : List Value) (h : xs.length = ys.length) : (xs.take 0 ++ (ys ++ xs.drop (0 + ys.length))).toArray = ys.toArray := by
  rw [List.take_zero, List.nil_append, List.drop_of_length_le (by omega), List.append_nil]

theorem take_set_next (l : List Int) (i m : Nat) (hi : i < l.length) : (l.take i ++ List.replicate (m + 1) 0).set i (l.getD i 0) = l.take (i + 1) ++ List.replicate m 0 := by
  have hl : (l.take i).length = i := by simp; omega
  rw [List.replicate_succ, List.set_append_right _ _ (by omega), hl, Nat.sub_self, List.set_cons_zero, List.take_succ_eq_append_getElem hi, List.append_assoc]
  simp only [List.getD, List.getElem?_eq_getElem hi, Option.getD_some, List.singleton_append]

end Go.Proofs.YtlhnodinhmdjnaaGreatDoor

/- The document's digests (rootcellarref03), and Entry of both, as contracts. -/
namespace Go.Proofs.YtlhnodinhmdjnaaGreatDoor
set_option maxRecDepth 20000
open Go.RowKit

set_option maxHeartbeats 1000000 in
theorem entry_long (K : List Int) (v : Value) (zs : List Int) (w : World) (h : Reads w v zs) (hl : 1024 < zs.length) (hm : zs.length ≤ 140737488355328) : Calls Tryz.prog 124 #[.agg (B K), v] w fun e w' => e = .returned (.tuple #[.agg (B (List.replicate 32 0)), .int .i64 4]) ∧ Below w.heap.size w w' := by
  obtain ⟨va, vc, rfl, _, _, _, _⟩ := h
  have hgt : (1024 : Int) < (zs.length : Int) := by omega
  generalize zs.length = n at *
  go_enter Tryz.func124, Tryz.ntmps124
  go_wp2_with (first
    | (refine wpList_bx _ rfl _ _ rfl _ rfl ?_; intro w1 g1 hg1 hl1 B1 b1)
    | (refine wpList_al _ rfl _ rfl _ zero_hash ?_; intro w2 g2 hg2 hl2 B2 b2)
    | (refine wpList_bld _ rfl _ _ rfl (B (List.replicate 32 0)) (by kernel_rfl) ?_)
    | (refine wpList_sto _ rfl _ _ _ rfl g2 _ _ rfl rfl B2 (by rw [B_size]; exact size_hash) rfl (B_one _) ?_; intro w3 B3 g3))
  exact bodyPost_ret (v := .tuple #[.agg (B (List.replicate 32 0)), .int .i64 4]) (results_row_tmp rfl _ _ g2 _ _ _ _ rfl rfl B3 Tryz.underlying51 (by rw [B_size]; exact size_hash)) rfl ⟨rfl, below_row (grow_trans b1 b2) g3 (Nat.le_trans b1.size hg2)⟩

set_option maxHeartbeats 2000000 in
theorem entry_short (K : List Int) (v : Value) (zs : List Int) (w : World) (hk : K.length = 32) (bk : Bytes K) (h : Reads w v zs) (hL : Laid w) (hl : zs.length ≤ 1024) : Calls Tryz.prog 124 #[.agg (B K), v] w fun e w' => e = .returned (.tuple #[.agg (B (dig (1 :: (K ++ dig (3 :: zs))))), .int .i64 0]) ∧ Below w.heap.size w w' := by
  obtain ⟨D, hD⟩ : ∃ D, D = dig (1 :: (K ++ dig (3 :: zs))) := ⟨_, rfl⟩
  obtain ⟨E, hE⟩ : ∃ E, E = dig (3 :: zs) := ⟨_, rfl⟩
  have HD := hidden hD
  have HSZ : Hid ((B D).size = 32) := by rw [B_size, hD]; exact dig_length _
  have HKZ : Hid ((B K).size = 32) := by rw [B_size]; exact hk
  have HV : Hid (∀ w', Below w.heap.size w w' → Calls Tryz.prog 111 #[v] w' fun e w'' => e = .returned (.agg (B E)) ∧ Below w'.heap.size w' w'') := by
    intro w' hw'
    rw [hE]
    exact value_any v zs w' (h.grow hw') (hL.grow hw') (by omega)
  have HF : Hid (∀ w', Below w.heap.size w w' → Calls Tryz.prog 115 #[.agg (B K), .agg (B E)] w' fun e w'' => e = .returned (.agg (B D)) ∧ Below w'.heap.size w' w'') := by
    intro w' hw'
    rw [hD, ← hE]
    exact leaf_any K E w' hk (by rw [hE]; exact dig_length _) bk (by rw [hE]; exact dig_bytes _) (hL.grow hw')
  rw [← hD]
  obtain ⟨va, vc, rfl, _, _, _, _⟩ := h
  have hgt : ¬ (1024 : Int) < (zs.length : Int) := by omega
  generalize zs.length = n at *
  clear hD hE hk bk
  go_enter Tryz.func124, Tryz.ntmps124
  go_wp2_with (first
    | (refine wpList_bx _ rfl _ _ rfl _ rfl ?_; intro w1 g1 hg1 hl1 B1 b1)
    | (refine wpList_al _ rfl _ rfl _ zero_hash ?_; intro w2 g2 hg2 hl2 B2 b2))
  have c2 := b1.trans (b2.mono b1.size)
  have HB1 := hidden (B1.grow b2)
  have HB2 := hidden B2
  have hd2 : Below w2.heap.size w2 w2.drew := (Below.refl _ _).drew
  have hiK : (Tryz.prog.info? 23).map (·.size) = some (B K).toList.length := by rw [Array.length_toList, HKZ.out]; kernel_rfl
  clear B1 B2
  refine wp_region_held_drew (S := fun w' => w'.rangeAt g1 0 (B K).toList) (by kernel_rfl) ((HB1.out.grow hd2).range) (fun hHeld => ?_)
  refine wpAnyH_take (i := 0) (v := .agg (B K)) rfl (by kernel_rfl) (by kernel_rfl) (by kernel_rfl) (fun _ _ _ h => h) (yieldsIf_load_mid rfl 23 (.tmp 2) rfl g1 0 rfl (B K).toList _ (fun w hS => hS) Tryz.underlying23 rfl hiK) hHeld ?_
  simp only [Act.put, List.getElem_toArray, List.getElem_cons_zero, List.setIfInBounds_toArray, List.set_cons_zero, List.set_cons_succ]
  refine wpAnyH_take (i := 1) (v := .slice va n vc) rfl (by kernel_rfl) (by kernel_rfl) (by kernel_rfl) (fun _ _ _ h => h) (Or.inl ⟨by rfl, fun w hS => by go_simp⟩) hHeld ?_
  simp only [Act.put, List.getElem_toArray, List.getElem_cons_zero, List.getElem_cons_succ, List.setIfInBounds_toArray, List.set_cons_zero, List.set_cons_succ]
  refine wpAnyH_ready (rs := [2]) (by kernel_rfl) (by simp) ?_
  refine AllReadyH.cons rfl (fun K1 hK => ?_) AllReadyH.nil
  go_simp
  refine (HV.out _ (grow_trans c2 hd2)).mono ?_
  rintro e w3 ⟨rfl, b3⟩
  have hd3 := grow_trans hd2 b3
  refine hK.out _ _ ((HB1.out.grow hd3).range) (fun hHeld => ?_)
  clear hK K1
  refine wpAnyH_ready (rs := [3]) (by kernel_rfl) (by simp) ?_
  refine AllReadyH.cons rfl (fun K1 hK => ?_) AllReadyH.nil
  go_simp
  refine (HF.out _ (grow_trans c2 hd3)).mono ?_
  rintro e w4 ⟨rfl, b4⟩
  have hd4 := grow_trans hd3 b4
  refine hK.out _ _ ((HB1.out.grow hd4).range) (fun hHeld => ?_)
  clear hK K1
  have B4 := HB2.out.grow hd4
  refine wpAnyH_ready (rs := [4]) (by kernel_rfl) (by simp) ?_
  refine AllReadyH.cons rfl (fun K1 hK => ?_) AllReadyH.nil
  refine step_sto _ rfl _ _ _ rfl g2 _ (B D) rfl rfl B4 (by rw [HSZ.out]; exact size_hash) (by rw [HSZ.out, B_size]; simp) (B_one _) ?_
  intro w5 B5 g5
  refine hK.out _ _ (((HB1.out.grow hd4).kept g5 (by omega)).range) (fun hHeld => ?_)
  clear hK K1
  refine wpAnyH_take (i := 5) (v := .int .i64 0) rfl (by kernel_rfl) (by kernel_rfl) (by kernel_rfl) (fun _ _ _ h => h) (Or.inl ⟨by rfl, fun w hS => by go_simp⟩) hHeld ?_
  simp only [Act.put, List.getElem_toArray, List.getElem_cons_zero, List.getElem_cons_succ, List.setIfInBounds_toArray, List.set_cons_zero, List.set_cons_succ]
  refine wpAnyH_done (by kernel_rfl) ?_ _
  go_wp2_with fail
  exact bodyPost_ret (v := .tuple #[.agg (B D), .int .i64 0]) (results_row_tmp rfl _ _ g2 _ _ _ _ rfl rfl B5 Tryz.underlying51 (by rw [HSZ.out]; exact size_hash)) rfl ⟨rfl, below_row (grow_trans c2 hd4) g5 (Nat.le_trans b1.size hg2)⟩

end Go.Proofs.YtlhnodinhmdjnaaGreatDoor
