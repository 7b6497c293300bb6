/- pack's small calls: the empty digest, a side's mark, how many bytes hold so many bits. -/
import Derived.Test.YtpihigcnoifcfaaGreatDoorVw15
import Derived.Test.YtpihigcnoifcfaaGreatDoorVw05
import Derived.Test.YtpihigcnoifcfaaGreatDoorVw03
import Derived.Test.YtpihigcnoifcfaaGreatDoorVw01
import Derived.Test.YtpihigcnoifcfaaGreatDoorVw08
import Derived.Test.YtpihigcnoifcfaaGreatDoorVw12
import Derived.Test.YtpihigcnoifcfaaGreatDoorVw11
namespace Go.Proofs.YtpihigcnoifcfaaGreatDoor
set_option maxRecDepth 20000
open Go.RowKit

theorem okE_zero : okE 0 z32 z32 z32 z32 = 0 := by simp [okE, okN]
theorem dgN_zero : dgN 0 z32 z32 z32 z32 = emD := by simp [dgN, txN, okN, emD]

set_option maxHeartbeats 2000000 in
theorem pempty_any (w : World) (hL : Laid w) : Calls Tryz.prog 53 #[] w fun e w' => e = .returned (.agg (B emD)) ∧ Below w.heap.size w w' := by
  obtain ⟨D, hD⟩ : ∃ D, D = emD := ⟨_, rfl⟩
  have HL := hidden hL
  have H : Hid (∀ w', Laid w' → Calls Tryz.prog 71 #[.agg (B (nd 0 z32 z32 z32 z32))] w' fun e w'' => e = .returned (.tuple #[.agg (B D), .int .i64 0]) ∧ Below w'.heap.size w' w'') := by
    intro w' hl
    have := digest_any 0 z32 z32 z32 z32 w' z_nd hl
    unfold DigNPost at this
    rwa [okE_zero, dgN_zero, ← hD] at this
  have HSZ : Hid ((Tryz.prog.info? 25).map (·.size) = some (B D).size) := by show _ = _; rw [B_size, hD, emD_length]; exact sz_hash
  have HS2 : Hid ((B (List.replicate 32 0)).size = (B D).size) := by show _ = _; rw [B_size, B_size, hD, emD_length]; rfl
  rw [← hD]
  clear hD hL
  go_enter Tryz.func53, Tryz.ntmps53
  go_wp2_with (first
    | ((with_reducible refine at_ald 0 ?_); refine wpList_al _ rfl _ rfl _ zero_hash ?_; intro w0 g0 hg0 hl0 B0 b0)
    | ((with_reducible refine at_bd ?_); refine wpList_bld _ rfl _ _ rfl _ built_empty ?_)
    | (go_at_call 71; refine (H.out _ (HL.out.grow b0)).mono ?_; rintro e w1 ⟨rfl, b1⟩; have B1 := B0.grow b1; have c1 := grow_trans b0 b1)
    | ((with_reducible refine at_ald 1 ?_); refine wpList_al _ rfl _ rfl _ zero_hash ?_; intro w2 g2 hg2 hl2 B2 b2; have c2 := grow_trans c1 b2; have B0' := B1.grow b2)
    | ((with_reducible refine at_st 1 ?_); refine wpList_sto _ rfl _ _ _ rfl g2 _ _ rfl rfl B2 HSZ.out HS2.out (B_one _) ?_; intro w3 B3 g3; have b3 := below_row b2 g3 hg2; have c3 := grow_trans c1 b3; have D0 := B1.grow b3)
    | ((with_reducible refine at_ldd 8 1 ?_); refine wpList_ld _ rfl _ _ rfl g2 _ rfl B3 _ _ Tryz.underlying25 HSZ.out ?_)
    | ((with_reducible refine at_st 0 ?_); refine wpList_sto _ rfl _ _ _ rfl g0 _ _ rfl rfl D0 HSZ.out HS2.out (B_one _) ?_; intro w4 B4 g4))
  exact bodyPost_ret (v := .agg (B D)) (results_cell_row rfl _ _ g0 _ _ _ _ rfl B4 Tryz.underlying25 rfl HSZ.out) rfl ⟨rfl, below_row c3 g4 hg0⟩

set_option maxHeartbeats 400000 in
theorem bytesFor_any (n : Nat) (w : World) (hn : n ≤ 65535) : Calls Tryz.prog 52 #[.int .i64 n] w fun e w' => e = .returned (.int .i64 (by7 n)) ∧ w' = w := by
  have h1 : (0 : Int) ≤ (n : Int) := by omega
  have h2 : (n : Int) ≤ 65535 := by omega
  have HX : Hid ((((n : Int) + 7) / 8) = (by7 n : Int)) := by show _ = _; unfold by7; omega
  go_enter Tryz.func52, Tryz.ntmps52
  go_wp2
  go_ret
  exact ⟨by rw [← HX.out]; rfl, rfl⟩

theorem mark_nat (i : Nat) : (2 : Int) ^ (7 - i % 8) = ((2 ^ (7 - i % 8) : Nat) : Int) := by rw [Int.natCast_pow]; rfl
set_option maxHeartbeats 400000 in
theorem mark_any (i : Nat) (w : World) (hn : i ≤ 65535) : Calls Tryz.prog 54 #[.int .i64 i] w fun e w' => e = .returned (.int .u8 (2 ^ (7 - i % 8))) ∧ w' = w := by
  have h1 : (0 : Int) ≤ (i : Int) := by omega
  have h2 : (i : Int) ≤ 65535 := by omega
  have HX : Hid ((2 : Int) ^ (7 - i % 8) % 256 = 2 ^ (7 - i % 8)) := by
    show _ = _
    have := (show ∀ k, k < 8 → 2 ^ (7 - k) % 256 = 2 ^ (7 - k) from by decide +kernel) (i % 8) (by omega)
    rw [mark_nat]
    exact_mod_cast this
  go_enter Tryz.func54, Tryz.ntmps54
  go_wp2
  go_ret
  exact ⟨by rw [HX.out]; rfl, rfl⟩

end Go.Proofs.YtpihigcnoifcfaaGreatDoor

/- What stands in every later world: facts that a walk carries on from call to call. -/
namespace Go.Proofs.YtpihigcnoifcfaaGreatDoor
set_option maxRecDepth 20000
open Go.RowKit

def Kp (w : World) (P : World → Prop) : Prop := ∀ w', Below w.heap.size w w' → P w'
theorem Kp.now {w : World} {P : World → Prop} (h : Kp w P) : P w := h w (Below.refl _ _)
theorem Kp.step {w w1 : World} {P : World → Prop} (h : Kp w P) (q : Below w.heap.size w w1) : Kp w1 P := fun w' h' => h w' (grow_trans q h')
theorem Kp.mono {w : World} {P Q : World → Prop} (h : Kp w P) (q : ∀ w', P w' → Q w') : Kp w Q := fun w' h' => q w' (h w' h')
theorem Blk.kp {w : World} {g : Nat} {t : TypeId} {cs : Array Value} (h : Blk w g t cs) : Kp w (fun w' => Blk w' g t cs) := fun _ q => h.grow q
theorem Reads.kp {w : World} {v : Value} {zs : List Int} (h : Reads w v zs) : Kp w (fun w' => Reads w' v zs) := fun _ q => h.grow q
theorem Own.kp {b : Nat} {w : World} {v : Value} {zs sp : List Int} (h : Own b w v zs sp) : Kp w (fun w' => Own b w' v zs sp) := fun _ q => h.grow q
theorem Laid.kp {w : World} (h : Laid w) : Kp w Laid := fun _ q => h.grow q
theorem below_kp (w : World) : Kp w (fun w' => Below w.heap.size w w') := fun _ q => q
theorem row_kp {w : World} {g : Nat} {zs : List Int} (h : Row w g zs) : Kp w (fun w' => Row w' g zs) := fun _ q => h.of_block (q.block g h.lt)

end Go.Proofs.YtpihigcnoifcfaaGreatDoor

/- What stands in every later world, beside nodes: see KpBase. -/
namespace Go.Proofs.YtpihigcnoifcfaaGreatDoor
set_option maxRecDepth 20000
open Go.RowKit

theorem kp_nodes : True := trivial

end Go.Proofs.YtpihigcnoifcfaaGreatDoor
