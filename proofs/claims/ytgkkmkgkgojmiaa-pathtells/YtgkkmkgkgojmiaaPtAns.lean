/- What Flip, First, Last and Next tell, at every number: one answer, the program's and the document's. -/
import Derived.Test.YtgkkmkgkgojmiaaRef4f
namespace Go.Proofs.Ytgkkmkgkgojmiaa
open Go.RowKit

/-- A key and an error's number: inside the range the key is as said, outside it is the zero one beside ErrArg. -/
def Ans (r : Prop) (p : List Int → Prop) (ys : List Int) (n : Int) : Prop := (r ∧ p ys ∧ n = 0) ∨ (¬ r ∧ ys = List.replicate 32 0 ∧ n = 2)

theorem Ans.key {r : Prop} {p : List Int → Prop} {ys : List Int} {n : Int} (h : Ans r p ys n) (hp : ∀ ys, p ys → Key ys) : Key ys := by
  rcases h with ⟨_, h, _⟩ | ⟨_, h, _⟩
  · exact hp _ h
  · rw [h]; exact key_zero
theorem Ans.one {r : Prop} {p : List Int → Prop} {ys zs : List Int} {n m : Int} (h : Ans r p ys n) (k : Ans r p zs m) (hp : ∀ ys zs, p ys → p zs → ys = zs) : ys = zs ∧ n = m := by
  rcases h with ⟨h0, h1, h2⟩ | ⟨h0, h1, h2⟩ <;> rcases k with ⟨k0, k1, k2⟩ | ⟨k0, k1, k2⟩
  · exact ⟨hp _ _ h1 k1, by omega⟩
  · exact absurd h0 k0
  · exact absurd k0 h0
  · exact ⟨by rw [h1, k1], by omega⟩

/-- What a call leaves that tells such an answer. -/
def AnsPost (r : Prop) (p : List Int → Prop) (w : World) (e : Ending) (w' : World) : Prop := ∃ ys n, Ans r p ys n ∧ e = .returned (.tuple #[.agg (B ys), .int .i64 n]) ∧ Below w.heap.size w w'

abbrev FlipP (xs : List Int) (d : Int) : List Int → Prop := fun ys => IsFlip xs d.toNat ys
abbrev FillP (xs : List Int) (d b : Int) : List Int → Prop := fun ys => IsFill xs d.toNat b ys

theorem post_in {r : Prop} {p : List Int → Prop} {w : World} {e : Ending} {w' : World} (hr : r) (h : KeyPost p 0 w e w') : AnsPost r p w e w' := by
  obtain ⟨ys, h1, h2, h3⟩ := h
  exact ⟨ys, 0, Or.inl ⟨hr, h1, rfl⟩, h2, h3⟩
theorem post_out {r : Prop} {p : List Int → Prop} {w : World} {e : Ending} {w' : World} (hr : ¬ r) (h : KeyPost (fun ys => ys = List.replicate 32 0) 2 w e w') : AnsPost r p w e w' := by
  obtain ⟨ys, h1, h2, h3⟩ := h
  exact ⟨ys, 2, Or.inr ⟨hr, h1, rfl⟩, h2, h3⟩

theorem flip_any (xs : List Int) (d : Int) (w : World) (hx : Key xs) : Calls Try.prog 22 #[.agg (B xs), .int .i64 d] w (AnsPost (0 ≤ d ∧ d < 256) (FlipP xs d) w) := by
  by_cases h : 0 ≤ d ∧ d < 256
  · have e : d = ((d.toNat : Nat) : Int) := by omega
    have := flip_in xs d.toNat w hx (by omega)
    rw [← e] at this
    exact this.mono fun _ _ q => post_in h q
  · exact (flip_out xs d w h).mono fun _ _ q => post_out h q
theorem rflip_any (xs : List Int) (d : Int) (w : World) (hx : Key xs) : Calls Try.prog 23 #[.agg (B xs), .int .i64 d] w (AnsPost (0 ≤ d ∧ d < 256) (FlipP xs d) w) := by
  by_cases h : 0 ≤ d ∧ d < 256
  · have e : d = ((d.toNat : Nat) : Int) := by omega
    have := rflip_in xs d.toNat w hx (by omega)
    rw [← e] at this
    exact this.mono fun _ _ q => post_in h q
  · exact (rflip_out xs d w h).mono fun _ _ q => post_out h q
theorem first_any (xs : List Int) (d : Int) (w : World) (hx : Key xs) : Calls Try.prog 24 #[.agg (B xs), .int .i64 d] w (AnsPost (0 ≤ d ∧ d ≤ 256) (FillP xs d 0) w) := by
  by_cases h : 0 ≤ d ∧ d ≤ 256
  · have e : d = ((d.toNat : Nat) : Int) := by omega
    have := first_in xs d.toNat w hx (by omega)
    rw [← e] at this
    exact this.mono fun _ _ q => post_in h q
  · exact (first_out xs d w hx h).mono fun _ _ q => post_out h q
theorem last_any (xs : List Int) (d : Int) (w : World) (hx : Key xs) : Calls Try.prog 26 #[.agg (B xs), .int .i64 d] w (AnsPost (0 ≤ d ∧ d ≤ 256) (FillP xs d 1) w) := by
  by_cases h : 0 ≤ d ∧ d ≤ 256
  · have e : d = ((d.toNat : Nat) : Int) := by omega
    have := last_in xs d.toNat w hx (by omega)
    rw [← e] at this
    exact this.mono fun _ _ q => post_in h q
  · exact (last_out xs d w hx h).mono fun _ _ q => post_out h q
theorem rfilled_any (xs : List Int) (d b : Int) (w : World) (hx : Key xs) (hb : b = 0 ∨ b = 1) : Calls Try.prog 25 #[.agg (B xs), .int .i64 d, .int .i64 b] w (AnsPost (0 ≤ d ∧ d ≤ 256) (FillP xs d b) w) := by
  by_cases h : 0 ≤ d ∧ d ≤ 256
  · have e : d = ((d.toNat : Nat) : Int) := by omega
    have := rfilled_in xs d.toNat b w hx (by omega) hb
    rw [← e] at this
    exact this.mono fun _ _ q => post_in h q
  · exact (rfilled_out xs d b w h).mono fun _ _ q => post_out h q

/-- What Next tells. -/
def NextAns (xs ys : List Int) (b : Bool) : Prop := (b = true ∧ IsNext xs ys) ∨ (b = false ∧ IsLast xs ∧ ys = List.replicate 32 0)
theorem NextAns.key {xs ys : List Int} {b : Bool} (h : NextAns xs ys b) : Key ys := by
  rcases h with ⟨_, h⟩ | ⟨_, _, h⟩
  · exact h.1
  · rw [h]; exact key_zero
theorem NextAns.one {xs ys zs : List Int} {b c : Bool} (h : NextAns xs ys b) (k : NextAns xs zs c) : ys = zs ∧ b = c := by
  rcases h with ⟨h0, h1⟩ | ⟨h0, h1, h2⟩ <;> rcases k with ⟨k0, k1⟩ | ⟨k0, k1, k2⟩
  · exact ⟨h1.one k1, by rw [h0, k0]⟩
  · exact absurd k1 h1.not_last
  · exact absurd h1 k1.not_last
  · exact ⟨by rw [h2, k2], by rw [h0, k0]⟩

set_option maxHeartbeats 1000000 in
theorem same_law (xs : List Int) (n : Int) (w : World) (hx : Key xs) : Calls Try.prog 10 #[.agg (B xs), .int .i64 n, .agg (B xs), .int .i64 n] w fun e w' => e = .returned (.bool true) ∧ Below w.heap.size w w' := by
  have hs := key_size hx
  have hs2 := b32_size hx
  have HE : ∀ w, (Op.equalIn 10000 24 (.agg (B xs)) (.agg (B xs))).run Try.prog w = .ok true w := fun w => by rw [path_eq xs xs hx.1 hx.1 w, decide_eq_true rfl]
  have hn : (n == n) = true := by simp
  clear hx
  go_enter Try.func10, Try.ntmps10
  go_wp2_with (first | (have hz := hl1; clear hz; refine wpList_bx _ rfl _ _ rfl _ rfl ?_; intro w2 g2 hg2 hl2 B2 b2; have B1' := B1.grow b2) | (refine wpList_bx _ rfl _ _ rfl _ rfl ?_; intro w1 g1 hg1 hl1 B1 b1) | (refine wpList_ld _ rfl _ _ rfl g1 _ rfl B1' _ _ u_path hs ?_) | (refine wpList_ld _ rfl _ _ rfl g2 _ rfl B2 _ _ u_b32 hs2 ?_))
  go_ret
  exact ⟨rfl, grow_trans b1 b2⟩

end Go.Proofs.Ytgkkmkgkgojmiaa
