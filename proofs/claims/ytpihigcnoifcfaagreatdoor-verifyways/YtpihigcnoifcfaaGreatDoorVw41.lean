/- node.RootAt and node.Root at any entries, as contracts. -/
import Derived.Test.YtpihigcnoifcfaaGreatDoorVw40
import Derived.Test.YtpihigcnoifcfaaGreatDoorVw28
import Derived.Test.YtpihigcnoifcfaaGreatDoorVw34
import Derived.Test.YtpihigcnoifcfaaGreatDoorVw37
namespace Go.Proofs.YtpihigcnoifcfaaGreatDoor
set_option maxRecDepth 20000
open Go.RowKit

def RootPost (es : List Ent) (d : Int) (w : World) (e : Ending) (w' : World) : Prop := ∃ h E, e = .returned (.tuple #[.agg (B h), .int .i64 E]) ∧ RootIs es d h E ∧ Below w.heap.size w w'

theorem errB_long {es : List Ent} (h : 4096 < es.length) : errB es = 4 := by rw [errB, if_pos h]

theorem RootAt_any (v : Value) (V : Nat → Value) (es : List Ent) (d : Int) (w : World) (hv : PrAt w v V es) (hn : es.length ≤ 140737488355328) (hL : Laid w) : Calls Tryz.prog 13 #[v, .int .i64 d] w (RootPost es d w) := by
  by_cases hd : d < 0 ∨ 256 < d
  · exact (RootAt_out v V es d w hv hd).mono fun e w' ⟨h1, h2⟩ => ⟨_, _, h1, .out hd, h2⟩
  · obtain ⟨m, rfl⟩ : ∃ m : Nat, d = (m : Int) := ⟨d.toNat, by omega⟩
    by_cases hE : errB es = 0
    · have hl : es.length ≤ 4096 := by
        by_cases h : 4096 < es.length
        · rw [errB_long h] at hE
          omega
        · omega
      by_cases hs : SameE es m
      · exact (RootAt_in v V es m true w hv hl hL (by omega) hE ⟨fun _ => hs, fun _ => rfl⟩).mono fun e w' ⟨h1, h2⟩ => ⟨_, _, h1, .good (by omega) (by omega) hE (by simpa using hs), h2⟩
      · exact (RootAt_in v V es m false w hv hl hL (by omega) hE ⟨fun h => (by cases h), fun h => absurd h hs⟩).mono fun e w' ⟨h1, h2⟩ => ⟨_, _, h1, .part (by omega) (by omega) hE (by simpa using hs), h2⟩
    · exact (RootAt_bad v V es m w hv hn (by omega) hE).mono fun e w' ⟨h1, h2⟩ => ⟨_, _, h1, .bad _ (by omega) (by omega) rfl hE, h2⟩

set_option maxHeartbeats 2000000 in
theorem Root_any (v : Value) (V : Nat → Value) (es : List Ent) (w : World) (hv : PrAt w v V es) (hn : es.length ≤ 140737488355328) (hL : Laid w) : Calls Tryz.prog 4 #[v] w (RootPost es 0 w) := by
  have HR : Hid (∀ w', Below w.heap.size w w' → Calls Tryz.prog 13 #[v, .int .i64 0] w' (RootPost es 0 w')) := fun w' hb => RootAt_any v V es 0 w' (hv.grow hb) hn (hL.grow hb)
  obtain ⟨a, cap, rfl, _, _, _⟩ := hv
  clear hL
  go_enter Tryz.func4, Tryz.ntmps4
  go_wp2_with (first
    | ((with_reducible refine at_ald 2 ?_); refine wpList_al _ rfl _ rfl _ zero_hash ?_; intro w1 g1 hg1 hl1 B1 b1)
    | (go_at_call 13; refine (HR.out _ b1).mono ?_; rintro e w2 ⟨h, E, rfl, hi, b2⟩; have HI := hidden hi; have HF := hidden (hash_facts h hi.len); clear hi; have B2 := B1.grow b2)
    | ((with_reducible refine at_st 2 ?_); refine wpList_sto _ rfl _ _ _ rfl g1 _ (B h) rfl rfl B2 HF.out.1 HF.out.2 (B_one _) ?_; intro w3 B3 r3))
  exact bodyPost_ret (v := .tuple #[.agg (B h), .int .i64 E]) (results_row_tmp rfl _ _ g1 _ _ _ _ rfl rfl B3 Tryz.underlying25 HF.out.1) rfl ⟨h, E, rfl, HI.out, below_row (grow_trans b1 b2) r3 hg1⟩

end Go.Proofs.YtpihigcnoifcfaaGreatDoor

/- The document's Root and RootAt, as contracts. -/
namespace Go.Proofs.YtpihigcnoifcfaaGreatDoor
set_option maxRecDepth 20000
open Go.RowKit

end Go.Proofs.YtpihigcnoifcfaaGreatDoor

/- NodeRoots' walk: the law returns true at all entries and depths, and nothing that was in memory turns. -/
namespace Go.Proofs.YtpihigcnoifcfaaGreatDoor
set_option maxRecDepth 20000
open Go.RowKit

theorem rootIs_ex (es : List Ent) (d : Int) : ∃ h E, RootIs es d h E := by
  by_cases hd : d < 0 ∨ 256 < d
  · exact ⟨_, _, .out hd⟩
  · by_cases hE : errB es = 0
    · by_cases hs : SameE es d.toNat
      · exact ⟨_, _, .good (by omega) (by omega) hE hs⟩
      · exact ⟨_, _, .part (by omega) (by omega) hE hs⟩
    · exact ⟨_, _, .bad _ (by omega) (by omega) rfl hE⟩

theorem rootPost_at {es : List Ent} {d : Int} {h : List Int} {E : Int} (hi : RootIs es d h E) {f : Nat} {args : Array Value} {w : World} (hc : Calls Tryz.prog f args w (RootPost es d w)) :
    Calls Tryz.prog f args w fun e w' => e = .returned (.tuple #[.agg (B h), .int .i64 E]) ∧ Below w.heap.size w w' :=
  hc.mono fun e w' ⟨h', E', h1, h2, h3⟩ => by
    obtain ⟨e1, e2⟩ := h2.one hi
    rw [e1, e2] at h1
    exact ⟨h1, h3⟩

end Go.Proofs.YtpihigcnoifcfaaGreatDoor
