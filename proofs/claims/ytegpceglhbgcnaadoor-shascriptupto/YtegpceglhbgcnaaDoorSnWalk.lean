/- ShaNil's walk: the law returns true at every b, and nothing that was in memory turns. -/
import Derived.Test.YtegpceglhbgcnaaDoorShaEq
import Derived.Test.YtegpceglhbgcnaaDoorAbc
import Derived.Test.YtegpceglhbgcnaaDoorHex1
import Derived.Lib.SlBytesConst
namespace Go.Proofs.YtegpceglhbgcnaaDoor
open Go.RowKit

theorem abc_reads (w : World) : Reads (w.alloc (.cells #[.int .u8 97, .int .u8 98, .int .u8 99] 5 (3, 4))) (.slice (some ⟨w.heap.size, 0, none⟩) 3 3) [97, 98, 99] := by
  refine ⟨_, 3, rfl, Nat.le_refl _, fun h => by simp at h, by intro z hz; simp at hz; omega, fun _ => ⟨w.heap.size, 0, rfl, ?_⟩⟩
  intro i hi
  have hr : (w.alloc (.cells #[.int .u8 97, .int .u8 98, .int .u8 99] 5 (3, 4))).heap[w.heap.size]? = some (.cells #[.int .u8 97, .int .u8 98, .int .u8 99] 5 (3, 4)) := heap_alloc_new w _
  rw [cell_of_row _ _ _ _ _ _ hr]
  match i, hi with
  | 0, _ => rfl
  | 1, _ => rfl
  | 2, _ => rfl

theorem abc_text : ((strOfNums (hx (dig [97, 98, 99]))).toList == [98, 97, 55, 56, 49, 54, 98, 102, 56, 102, 48, 49, 99, 102, 101, 97, 52, 49, 52, 49, 52, 48, 100, 101, 53, 100, 97, 101, 50, 50, 50, 51, 98, 48, 48, 51, 54, 49, 97, 51, 57, 54, 49, 55, 55, 97, 57, 99, 98, 52, 49, 48, 102, 102, 54, 49, 102, 50, 48, 48, 49, 53, 97, 100]) = true := by
  rw [dig_abc]
  kernel_rfl

theorem Blk.reads {w : World} {g : Nat} {t : TypeId} {zs : List Int} (h : Blk w g t (B zs)) (hb : Bytes zs) : Reads w (.slice (some ⟨g, 0, none⟩) zs.length zs.length) zs :=
  ⟨_, _, rfl, Nat.le_refl _, fun h => by simp at h, hb, fun _ => ⟨g, 0, rfl, fun i hi => by rw [Nat.zero_add]; exact h.bcell i hi⟩⟩

theorem below_cell {w w' : World} (hb : Below w.heap.size w w') {g o : Nat} {v : Value} (h : w.cell? ⟨g, o, none⟩ = some v) : w'.cell? ⟨g, o, none⟩ = some v := (hb.cell (p := ⟨g, o, none⟩) (block_lt_of_cell h)).trans h

set_option maxHeartbeats 2000000 in
set_option maxRecDepth 10000 in
theorem shaNil_walk (v : Value) (w : World) (hL : Laid w) : Calls Tryd.prog 6 #[v] w fun e w' => e = .returned (.bool true) ∧ Below w.heap.size w w' := by
  have HL := hidden hL
  clear hL
  go_enter Tryd.func6, Tryd.ntmps6
  go_wp2_with (first | (refine wpList_bld _ rfl _ _ rfl (Cs (List.replicate 8 0) (List.replicate 64 0) 0 false) (by kernel_rfl) ?_) | (refine wpList_bx _ rfl _ _ rfl _ rfl ?_; intro w1 g1 hg1 hl1 B1 b1))
  have b2 := grow_alloc w1 (.cells #[.pointer none, .pointer (some ⟨g1, 0, none⟩)] 36)
  have hnew : (w1.alloc (.cells #[.pointer none, .pointer (some ⟨g1, 0, none⟩)] 36)).heap[w1.heap.size]? = some (.cells #[.pointer none, .pointer (some ⟨g1, 0, none⟩)] 36 (0, 0)) := heap_alloc_new w1 _
  have c0 : (w1.alloc (.cells #[.pointer none, .pointer (some ⟨g1, 0, none⟩)] 36)).cell? ⟨w1.heap.size, 0, none⟩ = some (.pointer none) := by rw [cell_of_row _ _ _ _ _ _ hnew]; rfl
  have c1 : (w1.alloc (.cells #[.pointer none, .pointer (some ⟨g1, 0, none⟩)] 36)).cell? ⟨w1.heap.size, 1, none⟩ = some (.pointer (some ⟨g1, 0, none⟩)) := by rw [cell_of_row _ _ _ _ _ _ hnew]; rfl
  have m1 : (w1.alloc (.cells #[.pointer none, .pointer (some ⟨g1, 0, none⟩)] 36)).cell? ⟨g1, 73, none⟩ = some (.bool false) := by
    rw [(B1.grow b2).cell]
    rfl
  have cb := b1.trans (b2.mono b1.size)
  clear hnew B1 b1 b2
  generalize w1.alloc (.cells #[.pointer none, .pointer (some ⟨g1, 0, none⟩)] 36) = w2 at *
  have NZ : Hid (∀ w', Below w2.heap.size w2 w' → NoState (.pointer (some ⟨g1, 0, none⟩)) w') := fun w' hb => good_at g1 false w' (below_cell hb m1)
  have HQ : ∀ w, (Op.equalIn 10000 28 (.agg (B [0, 0, 0, 0, 0, 0, 0, 0, 0, 0, 0, 0, 0, 0, 0, 0, 0, 0, 0, 0, 0, 0, 0, 0, 0, 0, 0, 0, 0, 0, 0, 0])) (.agg #[.int .u8 0, .int .u8 0, .int .u8 0, .int .u8 0, .int .u8 0, .int .u8 0, .int .u8 0, .int .u8 0, .int .u8 0, .int .u8 0, .int .u8 0, .int .u8 0, .int .u8 0, .int .u8 0, .int .u8 0, .int .u8 0, .int .u8 0, .int .u8 0, .int .u8 0, .int .u8 0, .int .u8 0, .int .u8 0, .int .u8 0, .int .u8 0, .int .u8 0, .int .u8 0, .int .u8 0, .int .u8 0, .int .u8 0, .int .u8 0, .int .u8 0, .int .u8 0])).run Tryd.prog w = .ok true w := fun w => hash_same [0, 0, 0, 0, 0, 0, 0, 0, 0, 0, 0, 0, 0, 0, 0, 0, 0, 0, 0, 0, 0, 0, 0, 0, 0, 0, 0, 0, 0, 0, 0, 0] rfl w
  have HC1 := hidden c1
  have HCB := hidden cb
  clear m1 c1 cb
  refine wp_loop_rounds 3 ?_
  rw [rounds_succ]
  go_wp2_with (first
    | (go_at_call 14; refine (write_none _ _ _ (good_nil _)).mono ?_; rintro e w' ⟨rfl, hw'⟩; rw [hw']; clear hw')
    | (go_at_call 17; refine (len_none _ _ (good_nil _)).mono ?_; rintro e w' ⟨rfl, hw'⟩; rw [hw']; clear hw')
    | (go_at_call 18; refine (clone_none _ _ (good_nil _)).mono ?_; rintro e w' ⟨rfl, hw'⟩; rw [hw']; clear hw')
    | (go_at_call 16; refine (sum_none _ _ (fun _ _ => good_nil _)).mono ?_; rintro e w3 ⟨rfl, b3⟩; have d0 := below_cell b3 c0)
    | (refine wpList_bld _ rfl _ _ rfl (B (List.replicate 32 0)) (by kernel_rfl) ?_))
  rw [rounds_succ]
  have e1 := below_cell b3 HC1.out
  have NZ3 : Hid (∀ w', Below w3.heap.size w3 w' → NoState (.pointer (some ⟨g1, 0, none⟩)) w') := fun w' hb => NZ.out w' (grow_trans b3 hb)
  have cb3 := hidden (HCB.out.trans (b3.mono HCB.out.size))
  clear c0 d0 HC1 NZ b3 HCB
  go_wp2_with (first
    | (go_at_call 14; refine (write_none _ _ _ (NZ3.out _ (Below.refl _ _))).mono ?_; rintro e w' ⟨rfl, hw'⟩; rw [hw']; clear hw')
    | (go_at_call 17; refine (len_none _ _ (NZ3.out _ (Below.refl _ _))).mono ?_; rintro e w' ⟨rfl, hw'⟩; rw [hw']; clear hw')
    | (go_at_call 18; refine (clone_none _ _ (NZ3.out _ b4)).mono ?_; rintro e w' ⟨rfl, hw'⟩; rw [hw']; clear hw')
    | (go_at_call 16; refine (sum_none _ _ NZ3.out).mono ?_; rintro e w4 ⟨rfl, b4⟩; have d1 := below_cell b4 e1))
  rw [rounds_succ]
  have cb4 := hidden (cb3.out.trans (b4.mono cb3.out.size))
  clear e1 d1 NZ3 b4 cb3 HQ
  have HCV := fun (w : World) (C : Array Value) (n c : Nat) => Lib.run_convert_bytes_const (P := Tryd.prog) w 22 5 C n c u_bytes u_byte
  go_wp2_with fail
  have b5 := grow_alloc w4 (.cells #[.int .u8 97, .int .u8 98, .int .u8 99] 5 (3, 4))
  have cb5 := cb4.out.trans (b5.mono cb4.out.size)
  refine (shaSum_any _ [97, 98, 99] _ (abc_reads w4) (HL.out.grow cb5) (by simp)).mono ?_
  rintro e w6 ⟨rfl, b6⟩
  have cb6 := cb5.trans (b6.mono cb5.size)
  have HDL := hidden (dig_length [97, 98, 99])
  have HDB := hidden (dig_bytes [97, 98, 99])
  have HT := hidden abc_text
  clear b5 cb5 b6 cb4 HCV
  generalize dig [97, 98, 99] = D at *
  have HSZ : Hid ((B D).size = 32) := by rw [B_size]; exact HDL.out
  go_wp2_with (first | (refine wpList_al _ rfl _ rfl _ zero_hash ?_; intro w7 g7 hg7 hl7 B7 b7) | (refine wpList_sto _ rfl _ _ _ rfl g7 _ _ rfl rfl B7 (by rw [HSZ.out]; exact size_hash) (by rw [HSZ.out, B_size]; simp) (B_one _) ?_; intro w8 B8 g8))
  have R8 := B8.reads HDB.out
  rw [HDL.out] at R8
  have cb7 := cb6.trans (b7.mono cb6.size)
  have cb8 := below_row cb7 g8 (by have := cb6.size; omega)
  refine (hex_any _ D w8 R8 (by rw [HDL.out]; decide)).mono ?_
  rintro e w9 ⟨rfl, b9⟩
  have cb9 := cb8.trans (b9.mono cb8.size)
  go_wp2
  go_ret
  exact ⟨congrArg (fun b => Ending.returned (Value.bool b)) HT.out, cb9⟩

end Go.Proofs.YtegpceglhbgcnaaDoor
