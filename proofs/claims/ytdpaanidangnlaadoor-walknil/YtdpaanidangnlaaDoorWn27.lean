/- That an array is like itself; what calls of a State that is none tell. -/
import Derived.Test.YtdpaanidangnlaaDoorWn23
import Derived.Test.YtdpaanidangnlaaDoorWn06
import Derived.ChangeKeysEq
import Derived.Laws.StructEq
import Derived.Test.YtdpaanidangnlaaDoorWn05
import Derived.KernelRfl
namespace Go.Proofs.YtdpaanidangnlaaDoor
set_option maxRecDepth 20000
open Go.RowKit

theorem cellsOf_word : Tryd.prog.cellsOf 128 = 1 := by kernel_rfl

theorem items_same {e : TypeId} {k : IntKind} (he : Tryd.prog.underlying e = some (.int k)) (hagg : ∀ w, (isAgg e).run Tryd.prog w = .ok false w) (d : Nat) (zs : List Int) (xs : Array Value) (hx : ∀ i, i < zs.length → xs[i]? = some (.int k (zs.getD i 0))) (w : World) :
    ∀ is : List Nat, (∀ i ∈ is, i < zs.length) → (Op.eqItems (d + 1) e 1 xs xs is).run Tryd.prog w = .ok true w
  | [], _ => by simp [Op.eqItems]
  | i :: is, h => by
    have h1 := hx i (h i (by simp))
    have hp : (part e xs (i * 1)).run Tryd.prog w = .ok (.int k (zs.getD i 0)) w := by
      rw [Nat.mul_one]
      unfold part
      rw [Sem.run_bind, hagg w]
      simp only [Result.andThen_ok, Bool.false_eq_true, if_false, h1, Sem.run_pure]
    have he2 := run_equalIn_int (P := Tryd.prog) (w := w) d e k k (zs.getD i 0) (zs.getD i 0) he
    have ih := items_same he hagg d zs xs hx w is (fun j hj => h j (by simp [hj]))
    simp only [Op.eqItems, Sem.run_bind, hp, Result.andThen_ok, he2, beq_self_eq_true, Bool.not_true, Bool.false_eq_true, if_false, ih]

theorem hash_same (zs : List Int) (hl : zs.length = 32) (w : World) : (Op.equalIn 10000 39 (.agg (B zs)) (.agg (B zs))).run Tryd.prog w = .ok true w := by
  obtain ⟨i, hi⟩ : ∃ i, Tryd.prog.info? 5 = some i := ⟨_, rfl⟩
  rw [show (10000 : Nat) = 9998 + 1 + 1 from rfl, run_equalIn_array (P := Tryd.prog) w (9998 + 1) (B zs) (B zs) Tryd.underlying39 hi, cellsOf_byte]
  exact items_same u_byte Tryd.isAgg5 9998 zs (B zs) (fun i hi => B_get zs i hi) w _ (fun i hi => by rw [hl]; simpa using hi)

theorem words_same (zs : List Int) (hl : zs.length = 8) (w : World) : (Op.equalIn 10000 129 (.agg (U zs)) (.agg (U zs))).run Tryd.prog w = .ok true w := by
  obtain ⟨i, hi⟩ : ∃ i, Tryd.prog.info? 128 = some i := ⟨_, rfl⟩
  rw [show (10000 : Nat) = 9998 + 1 + 1 from rfl, run_equalIn_array (P := Tryd.prog) w (9998 + 1) (U zs) (U zs) Tryd.underlying129 hi, cellsOf_word]
  exact items_same Tryd.underlying128 Tryd.isAgg128 9998 zs (U zs) (fun i hi => U_get zs i hi) w _ (fun i hi => by rw [hl]; simpa using hi)

/-- What good tells of a State that is none. -/
def NoState (r : Value) (w : World) : Prop := Calls Tryd.prog 80 #[r] w fun e w' => e = .returned (.bool false) ∧ w' = w

set_option maxHeartbeats 400000 in
theorem write_none (r v : Value) (w : World) (h : NoState r w) : Calls Tryd.prog 76 #[r, v] w fun e w' => e = .returned (.int .i64 0) ∧ w' = w := by
  have H := hidden h
  clear h
  go_enter Tryd.func76, Tryd.ntmps76
  go_wp2_with (go_at_call 80; refine H.out.mono ?_; rintro e w' ⟨rfl, rfl⟩)
  go_ret
  exact ⟨rfl, rfl⟩

set_option maxHeartbeats 400000 in
theorem sum_none (r : Value) (w : World) (h : ∀ w', Below w.heap.size w w' → NoState r w') : Calls Tryd.prog 77 #[r] w fun e w' => e = .returned (.agg (B (List.replicate 32 0))) ∧ Below w.heap.size w w' := by
  have H := hidden h
  clear h
  go_enter Tryd.func77, Tryd.ntmps77
  go_wp2_with (first | (refine wpList_al _ rfl _ rfl _ zero_hash ?_; intro w1 g1 hg1 hl1 B1 b1) | (go_at_call 80; refine (H.out _ b1).mono ?_; rintro e w' ⟨rfl, hw'⟩; rw [hw']; clear hw') | (refine wpList_bld _ rfl _ _ rfl (B (List.replicate 32 0)) (by kernel_rfl) ?_) | (refine wpList_sto _ rfl _ _ _ rfl g1 _ _ rfl rfl B1 (by rw [B_size]; exact size_hash) rfl (B_one _) ?_; intro w2 B2 g2))
  exact bodyPost_ret (v := .agg (B (List.replicate 32 0))) (results_cell_row rfl _ _ g1 _ _ _ _ rfl B2 Tryd.underlying39 rfl (by rw [B_size]; exact size_hash)) rfl ⟨rfl, below_row b1 g2 hg1⟩

end Go.Proofs.YtdpaanidangnlaaDoor

/- The digest of the text abc, reckoned by the kernel. -/
namespace Go.Proofs.YtdpaanidangnlaaDoor
set_option maxRecDepth 20000
open Go.RowKit

theorem dig_abc : dig [97, 98, 99] = [186, 120, 22, 191, 143, 1, 207, 234, 65, 65, 64, 222, 93, 174, 34, 35, 176, 3, 97, 163, 150, 23, 122, 156, 180, 16, 255, 97, 242, 0, 21, 173] := by kernel_rfl

end Go.Proofs.YtdpaanidangnlaaDoor
