/- OctetReader's walk: the law returns true at all bytes and at every script of calls, and nothing that was in memory turns. -/
import Derived.Test.YthbdnhfppjhppaaAsked2
import Derived.Test.YthbdnhfppjhppaaKit2
import Derived.Deep.QuietTactic
import Derived.BigQuiet
namespace Go.Proofs.Ythbdnhfppjhppaa
open Go.RowKit

/-- v is a slice of calls that reads as ks. -/
def Asks (w : World) (v : Value) (ks : List (Int × Int)) : Prop :=
  ∃ a cap, v = .slice a ks.length cap ∧ ks.length ≤ 140737488355328 ∧ (∀ k ∈ ks, 0 ≤ k.1 ∧ k.1 ≤ 255) ∧
    (0 < ks.length → ∃ b off, a = some ⟨b, off, none⟩ ∧ ∀ i, i < ks.length → w.cell? ⟨b, off + i * 2, none⟩ = some (.int .u8 (ks.getD i (0, 0)).1) ∧ w.cell? ⟨b, off + i * 2 + 1, none⟩ = some (.int .i64 (ks.getD i (0, 0)).2))

theorem ask_any (B b1 : Nat) (o1 : Option Nat) (b2 : Nat) (o2 : Option Nat) (k n : Int) (w : World) (h : St b1 o1 b2 o2 w) (hB1 : B ≤ b1) (hB2 : B ≤ b2) (hs : B ≤ w.heap.size) (hk : 0 ≤ k) :
    Calls Try.prog 26 #[.pointer (some ⟨b1, 0, none⟩), .pointer (some ⟨b2, 0, none⟩), .agg #[.int .u8 k, .int .i64 n]] w (AskPost B b1 o1 b2 o2 w) := by
  rcases (show k = 0 ∨ k = 1 ∨ k = 2 ∨ k = 3 ∨ k = 4 ∨ k = 5 ∨ 6 ≤ k by omega) with rfl | rfl | rfl | rfl | rfl | rfl | h6
  · exact ask_byte B b1 o1 b2 o2 n w h hB1 hB2 hs
  · exact ask_u16 B b1 o1 b2 o2 n w h hB1 hB2 hs
  · exact ask_u32 B b1 o1 b2 o2 n w h hB1 hB2 hs
  · exact ask_take B b1 o1 b2 o2 n w h hB1 hB2 hs
  · exact ask_left B b1 o1 b2 o2 n w h hB1 hB2 hs
  · exact ask_bad B b1 o1 b2 o2 n w h hB1 hB2 hs
  · exact ask_done B b1 o1 b2 o2 k n w h hB1 hB2 hs h6

set_option maxHeartbeats 1000000 in
theorem reader_walk (v s : Value) (zs : List Int) (ks : List (Int × Int)) (w : World) (h : Reads w v zs) (hl : zs.length ≤ 140737488355328) (hk : Asks w s ks) :
    Calls Try.prog 5 #[v, s] w fun e w' => e = .returned (.bool true) ∧ Below w.heap.size w w' := by
  have HR := hidden h
  have HK := hidden hk
  clear h hk
  go_enter Try.func5, Try.ntmps5
  go_wp2_with fail
  refine (lent_any _ zs _ HR.out hl).mono ?_
  rintro e w1 ⟨rfl, hr1, hb1, hs1⟩
  have HO1 : Hid (Own w.heap.size w1 (.slice (some ⟨w.heap.size, 0, none⟩) zs.length (zs.length + 5)) zs (marks zs.length)) := by
    obtain ⟨_, _, _, _, _, hby, _⟩ := HR.out
    exact ⟨hby, marks_bytes _, by rw [marks_length]; simp only [maxLen]; omega, .inr ⟨_, [], Nat.le_refl _, by rw [marks_length], by simpa using hr1⟩⟩
  have HR1 := hidden hr1
  clear hr1
  go_wp2_with fail
  refine (new_any _ zs w1 HO1.out.reads hl).mono ?_
  rintro e w2 ⟨b1, o1, rfl, hlb1, hlo1, hrd, hb2⟩
  have HRD := hidden hrd
  clear hrd
  go_wp2_with fail
  refine (kept_true _ _ zs w2 (HR1.out.of_block (hb2.block _ (by omega))) (HR.out.grow (grow_trans hb1 hb2)) hl).mono ?_
  rintro e w3 ⟨rfl, hb3⟩
  go_wp2_with fail
  refine (over_own _ _ zs _ w3 (HO1.out.of_block (fun k hk => by simp only [Value.ownBlock, Option.some.injEq] at hk; exact (grow_trans hb2 hb3).block k (by omega)))).mono ?_
  rintro e w4 ⟨rfl, _, hg4, hs4⟩
  have hb4 : Below w.heap.size w w4 := (grow_trans (grow_trans hb1 hb2) hb3).trans ((Below.refl _ _).grown hg4 (by have := hb2.size; have := hb3.size; omega) (by intro k hk; simp only [Value.ownBlock, Option.some.injEq] at hk; omega))
  go_wp2_with fail
  refine (rnew_any _ zs w4 (HR.out.grow hb4) hl).mono ?_
  rintro e w5 ⟨b2, o2, rfl, hlb2, hlo2, hrm, hb5⟩
  have hst : St b1 o1 b2 o2 w5 := by
    have r3 := HRD.out.grow hb3
    have r4 := r3.kept hg4 (by simp only [Value.ownBlock, ne_eq, Option.some.injEq]; omega) (by
      refine .inr ?_
      intro e
      have := hlo1 w.heap.size e
      omega)
    have hz2 := HRD.out.lt
    have hz3 := hb3.size
    refine ⟨zs, zs, false, r4.grow hb5, hrm, fun _ => rfl, fun h => by simp at h, by omega, ?_, ?_, ?_⟩
    · intro e
      have := hlo1 _ e
      omega
    · intro e
      have := hlo2 _ e
      omega
    · intro k hk
      have hz5 := hb5.size
      rcases hk with hk | hk
      · have := hlo1 _ hk
        omega
      · exact (hlo2 _ hk).2
  have hbw5 : Below w.heap.size w w5 := hb4.trans (hb5.mono hb4.size)
  have hl1 : w.heap.size ≤ b1 := by omega
  have hl2 : w.heap.size ≤ b2 := by have := hb4.size; omega
  have HS := hidden hst
  clear hst hrm HRD HO1 HR1 hg4 hb5 hb3 hb2 hb1 hlo1 hlo2 hb4 hlb2 hlb1 hs4 hs1
  obtain ⟨a, cap, rfl, hks, hkb, hkc⟩ := HK.out
  have HKC := hidden hkc
  have HKB := hidden hkb
  clear hkc hkb HK
  go_wp2_with fail
  go_loopw [8] (fun i wr => ∃ k : Nat, k ≤ ks.length ∧ i = .int .i64 k ∧ Hid (St b1 o1 b2 o2 wr) ∧ Below w.heap.size w wr) (fun i _ => ks.length - (intOf i).toNat)
  case atStart => exact ⟨0, by omega, by simp, HS, hbw5⟩
  case round =>
    obtain ⟨k, hk, rfl, hS, hb⟩ := hrel
    by_cases hlt : k < ks.length
    · obtain ⟨kb, off, rfl, hcc⟩ := HKC.out (by omega)
      obtain ⟨q0, q1⟩ := hcc k hlt
      have hk0 : 0 ≤ (ks.getD k (0, 0)).1 := by
        have := HKB.out ks[k] (List.getElem_mem hlt)
        simpa [List.getD, hlt] using this.1
      generalize (ks.getD k (0, 0)).1 = kind at *
      generalize (ks.getD k (0, 0)).2 = num at *
      have q0' : wr.cell? ⟨kb, off + k * 2, none⟩ = some (.int .u8 kind) := (hb.cell (p := ⟨kb, off + k * 2, none⟩) (block_lt_of_cell q0)).trans q0
      have q1' : wr.cell? ⟨kb, off + k * 2 + 1, none⟩ = some (.int .i64 num) := (hb.cell (p := ⟨kb, off + k * 2 + 1, none⟩) (block_lt_of_cell q1)).trans q1
      clear q0 q1 hcc
      go_wp2_with fail
      refine (ask_any w.heap.size b1 o1 b2 o2 kind num wr hS.out hl1 hl2 hb.size hk0).mono ?_
      rintro e w6 ⟨rfl, hS6, hb6⟩
      have HS6 := hidden hS6
      clear hS6
      go_wp2
      exact ⟨⟨k + 1, by omega, by go_num, HS6, hb.trans hb6⟩, by simp [intOf]; omega⟩
    · obtain ⟨z1, zz, bad, r1, r2, e1, e2, _⟩ := hS.out
      have L1 : Hid (∀ n, Calls Try.prog 27 #[.pointer (some ⟨b1, 0, none⟩)] (wr.drewN n) fun e w' => e = .returned (.int .i64 zz.length) ∧ w' = wr.drewN n) := by
        intro n
        have := rd_left b1 z1 bad (wr.drewN n) o1 (r1.grow (below_drewN (Below.refl _ _) n))
        have e : (if bad = true then 0 else z1.length) = zz.length := by
          cases bad
          · rw [e1 rfl]; rfl
          · rw [e2 rfl]; rfl
        rw [e] at this
        exact this
      have L2 : Hid (∀ n, Calls Try.prog 28 #[.pointer (some ⟨b1, 0, none⟩)] (wr.drewN n) fun e w' => e = .returned (.bool bad) ∧ w' = wr.drewN n) := by
        intro n
        exact rd_bad b1 z1 bad (wr.drewN n) o1 (r1.grow (below_drewN (Below.refl _ _) n))
      have e3 : (!bad && z1.length == 0) = (!bad && zz.length == 0) := by
        cases bad
        · rw [e1 rfl]
        · rfl
      have L3 : Hid (∀ n, Calls Try.prog 29 #[.pointer (some ⟨b1, 0, none⟩)] (wr.drewN n) fun e w' => e = .returned (.bool (!bad && zz.length == 0)) ∧ w' = wr.drewN n) := by
        intro n
        have := rd_done b1 z1 bad (wr.drewN n) o1 (r1.grow (below_drewN (Below.refl _ _) n))
        rw [e3] at this
        exact this
      have L4 : Hid (∀ n, Calls Try.prog 30 #[.pointer (some ⟨b2, 0, none⟩)] (wr.drewN n) fun e w' => e = .returned (.bool (!bad && zz.length == 0)) ∧ w' = wr.drewN n) := by
        intro n
        exact rm_done b2 zz bad (wr.drewN n) o2 (r2.grow (below_drewN (Below.refl _ _) n))
      obtain ⟨a2, q2, _, _, c0, c1, _⟩ := r2.cells
      generalize (!bad && zz.length == 0) = tt at *
      clear e1 e2 e3 r1 hS
      rw [Nat.zero_add] at c1
      go_wp2_with fail
      go_quiet ((first | (go_at_call 27; exact Calls.quiet_of_same (L1.out _)) | (go_at_call 28; exact Calls.quiet_of_same (L2.out _)) | (go_at_call 29; exact Calls.quiet_of_same (L3.out _)) | (go_at_call 30; exact Calls.quiet_of_same (L4.out _))))
      go_wp2
      go_ret
      exact ⟨rfl, below_drewN hb _⟩

end Go.Proofs.Ythbdnhfppjhppaa
