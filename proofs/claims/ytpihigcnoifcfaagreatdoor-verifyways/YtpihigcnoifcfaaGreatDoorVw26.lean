/- pack.Check, pack.Encode and pack.Size, as contracts. -/
import Derived.Test.YtpihigcnoifcfaaGreatDoorVw23
import Derived.Test.YtpihigcnoifcfaaGreatDoorVw25
import Derived.Test.YtpihigcnoifcfaaGreatDoorVw22
namespace Go.Proofs.YtpihigcnoifcfaaGreatDoor
set_option maxRecDepth 20000
open Go.RowKit

theorem parts_four (w : World) (v1 v2 v3 v4 : Value) (z1 z2 z3 z4 : List Int) (h1 : Reads w v1 z1) (h2 : Reads w v2 z2) (h3 : Reads w v3 z3) (h4 : Reads w v4 z4) : Parts (w.alloc (.cells #[v1, v2, v3, v4] 26)) (.slice (some ⟨w.heap.size, 0, none⟩) 4 4) [z1, z2, z3, z4] := by
  refine ⟨_, 4, fun i => if i = 0 then v1 else if i = 1 then v2 else if i = 2 then v3 else v4, rfl, Nat.le_refl _, by simp, fun _ => ⟨w.heap.size, 0, rfl, fun i hi => ?_⟩, fun i hi => ?_⟩
  · have hr : (w.alloc (.cells #[v1, v2, v3, v4] 26)).heap[w.heap.size]? = some (.cells #[v1, v2, v3, v4] 26 (0, 0)) := heap_alloc_new w _
    rw [cell_of_row _ _ _ _ _ _ hr]
    match i, hi with
    | 0, _ => rfl
    | 1, _ => rfl
    | 2, _ => rfl
    | 3, _ => rfl
  · match i, hi with
    | 0, _ => exact h1.grow (grow_alloc w _)
    | 1, _ => exact h2.grow (grow_alloc w _)
    | 2, _ => exact h3.grow (grow_alloc w _)
    | 3, _ => exact h4.grow (grow_alloc w _)

set_option maxHeartbeats 2000000 in
theorem pkcheck_any (s : Value) (hs : List (List Int)) (k : Int) (a b c d : List Int) (w : World) (hh : HsAt w s hs) (hN : Nd k a b c d) :
    Calls Tryz.prog 21 #[.agg (encR s (nd k a b c d)).toArray] w fun e w' => e = .returned (.int .i64 (chE hs k a b c d)) ∧ Below w.heap.size w w' := by
  obtain ⟨sa, sc, rfl, _⟩ := hh
  have HC : Hid (∀ w', Calls Tryz.prog 48 #[.agg (B (nd k a b c d))] w' fun e w'' => e = .returned (.int .i64 (okE k a b c d)) ∧ Below w'.heap.size w' w'') := fun w' => check_any k a b c d w' hN
  have HL := hidden hN.length
  obtain ⟨n, hnn⟩ : ∃ n, n = hs.length := ⟨_, rfl⟩
  obtain ⟨E, hE⟩ : ∃ E, E = chE hs k a b c d := ⟨_, rfl⟩
  have hE2 : E = if 256 < n then 4 else if k = 2 then 2 else okE k a b c d := by rw [hE, hnn]; rfl
  have HK : Hid (∀ (s : Value) w g t, Blk w g t (encR s (nd k a b c d)).toArray → w.cell? ⟨g, 1, none⟩ = some (.int .u8 k)) := fun s w g t h => proof_kind h
  obtain ⟨N, hNn⟩ : ∃ N, N = nd k a b c d := ⟨_, rfl⟩
  rw [← hnn, ← hE, ← hNn]
  rw [← hNn] at HC HL HK
  have k0 := hN.k0
  have k1 := hN.k1
  clear hE hnn hNn hN
  by_cases h1 : 256 < n
  · have z1 : (256 : Int) < (n : Int) := by omega
    rw [if_pos h1] at hE2
    subst hE2
    clear h1
    go_enter Tryz.func21, Tryz.ntmps21
    go_wp2_with (first
      | ((with_reducible refine at_bxd 1 ?_); refine wpList_bx _ rfl _ _ rfl _ rfl ?_; intro w1 g1 hg1 hl1 B1 b1; have cx := proof_side B1))
    go_ret
    exact ⟨rfl, b1⟩
  · have z1 : ¬ (256 : Int) < (n : Int) := by omega
    rw [if_neg h1] at hE2
    by_cases h2 : k = 2
    · rw [if_pos h2] at hE2
      subst hE2
      have z2 : (k == 2) = true := by simp [h2]
      clear h1
      go_enter Tryz.func21, Tryz.ntmps21
      go_wp2_with (first
        | ((with_reducible refine at_bxd 1 ?_); refine wpList_bx _ rfl _ _ rfl _ rfl ?_; intro w1 g1 hg1 hl1 B1 b1; have cx := proof_side B1; have ck := HK.out _ _ _ _ B1))
      go_ret
      exact ⟨rfl, b1⟩
    · rw [if_neg h2] at hE2
      have z2 : (k == 2) = false := by simp [h2]
      rw [← hE2] at HC
      clear h1 h2 hE2
      go_enter Tryz.func21, Tryz.ntmps21
      go_wp2_with (first
        | ((with_reducible refine at_bxd 1 ?_); refine wpList_bx _ rfl _ _ rfl _ rfl ?_; intro w1 g1 hg1 hl1 B1 b1; have cx := proof_side B1; have ck := HK.out _ _ _ _ B1)
        | ((with_reducible refine at_ldd 14 13 ?_); refine wpList_lde _ rfl _ rfl g1 _ _ N rfl B1 HL.out ?_)
        | (go_at_call 48; refine (HC.out _).mono ?_; rintro e w2 ⟨rfl, b2⟩))
      go_ret
      exact ⟨rfl, grow_trans b1 b2⟩

/-- What Encode tells. -/
def exP (hs : List (List Int)) (k : Int) (a b c d : List Int) : List Int := if chE hs k a b c d = 0 then pkE hs k a b c d else []
def EncPP (hs : List (List Int)) (k : Int) (a b c d : List Int) (w : World) (e : Ending) (w' : World) : Prop :=
  ∃ v sp, e = .returned (.tuple #[v, .int .i64 (chE hs k a b c d)]) ∧ Own w.heap.size w' v (exP hs k a b c d) sp ∧ Below w.heap.size w w'

theorem chE_in (hs : List (List Int)) (k : Int) (a b c d : List Int) : chE hs k a b c d = 0 ∨ chE hs k a b c d = 2 ∨ chE hs k a b c d = 4 := by
  unfold chE okE
  repeat' split
  all_goals simp

set_option maxRecDepth 100000 in
set_option maxHeartbeats 4000000 in
theorem pkencode_any (s : Value) (hs : List (List Int)) (k : Int) (a b c d : List Int) (w : World) (hh : HsAt w s hs) (hN : Nd k a b c d) (hL : Laid w) :
    Calls Tryz.prog 7 #[.agg (encR s (nd k a b c d)).toArray] w (EncPP hs k a b c d w) := by
  have HH := hidden hh
  have HLa := hidden hL
  have HL := hidden hN.length
  have HDg : Hid (Dg hs) := hh.dgs
  have HC : Hid (∀ w', Below w.heap.size w w' → Calls Tryz.prog 21 #[.agg (encR s (nd k a b c d)).toArray] w' fun e w'' => e = .returned (.int .i64 (chE hs k a b c d)) ∧ Below w'.heap.size w' w'') := fun w' h => pkcheck_any s hs k a b c d w' (hh.grow h) hN
  have HEn : Hid (∀ w', Calls Tryz.prog 23 #[.agg (B (nd k a b c d))] w' (EncPost k a b c d w')) := fun w' => encode_any k a b c d w' hN
  have HPost : Hid (∀ v sp w', Own w.heap.size w' v (exP hs k a b c d) sp → Below w.heap.size w w' → EncPP hs k a b c d w (.returned (.tuple #[v, .int .i64 (chE hs k a b c d)])) w') := fun v sp w' h1 h2 => ⟨v, sp, rfl, h1, h2⟩
  generalize HE : EncPP hs k a b c d w = Post at HPost ⊢
  clear HE
  by_cases h0 : chE hs k a b c d = 0
  · have hex : exP hs k a b c d = pkE hs k a b c d := if_pos h0
    obtain ⟨hn, hk2, ho⟩ := chE_ok h0
    have hoE : okE k a b c d = 0 := by rw [okE, ho]; rfl
    have HMk : Hid (∀ w', Below w.heap.size w w' → Calls Tryz.prog 24 #[s] w' (MkPost hs w')) := fun w' h => marks_any s hs w' (hh.grow h) hn (hL.grow h)
    rw [hex] at HPost
    rw [h0] at HC HPost
    have HEn2 : Hid (∀ w', Calls Tryz.prog 23 #[.agg (B (nd k a b c d))] w' fun e w'' => ∃ v sp, e = .returned (.tuple #[v, .int .i64 0]) ∧ Own w'.heap.size w'' v (txN k a b c d) sp ∧ Below w'.heap.size w' w'') := fun w' => by
      have := HEn.out w'
      unfold EncPost at this
      rwa [hoE] at this
    have HPu : Hid (∀ w', Calls Tryz.prog 22 #[.int .i64 (hs.length : Int)] w' fun e w'' => ∃ v sp, e = .returned (.tuple #[v, .int .i64 0]) ∧ Own w'.heap.size w'' v [(hs.length : Int) / 256, (hs.length : Int) % 256] sp ∧ Below w'.heap.size w' w'') := fun w' => put16_ok _ w' (by omega) (by omega)
    have HTx := hidden (txN_bytes hN)
    have hpl : (pkE hs k a b c d).length ≤ 8291 := (pkE_size hh.dgs hN h0).2
    have hfl : [[(hs.length : Int) / 256, (hs.length : Int) % 256], bitsL hs, wrL hs, txN k a b c d].flatten = pkE hs k a b c d := by simp [pkE, hdL]
    have HJn : Hid (∀ (w' : World) v1 v2 v3 v4, Reads w' v1 [(hs.length : Int) / 256, (hs.length : Int) % 256] → Reads w' v2 (bitsL hs) → Reads w' v3 (wrL hs) → Reads w' v4 (txN k a b c d) →
        Calls Tryz.prog 25 #[.slice (some ⟨w'.heap.size, 0, none⟩) 4 4] (w'.alloc (.cells #[v1, v2, v3, v4] 26)) fun e w'' => ∃ u sp, e = .returned u ∧ Own w'.heap.size w'' u (pkE hs k a b c d) sp ∧ Below w'.heap.size w' w'') := fun w' v1 v2 v3 v4 r1 r2 r3 r4 => by
      have := join_any _ _ _ (parts_four w' v1 v2 v3 v4 _ _ _ _ r1 r2 r3 r4) (by rw [hfl]; omega)
      rw [hfl] at this
      refine this.mono ?_
      rintro e w'' ⟨u, sp, h1, h2, h3⟩
      exact ⟨u, sp, h1, h2.mono (grow_alloc w' _).size, grow_trans (grow_alloc w' _) h3⟩
    have HMk2 : Hid (∀ w', Below w.heap.size w w' → Calls Tryz.prog 24 #[s] w' fun e w'' => ∃ v1 v sp, e = .returned (.tuple #[v1, v]) ∧ Own w'.heap.size w'' v1 (bitsL hs) [] ∧ Own w'.heap.size w'' v (wrL hs) sp ∧ Below w'.heap.size w' w'') := fun w' h => (HMk.out w' h).mono fun e w'' ⟨g, v, sp, h1, h2, h3, h4⟩ => ⟨_, v, sp, h1, h2, h3, h4⟩
    obtain ⟨sa, sc, rfl, _⟩ := hh
    obtain ⟨n, hnn⟩ : ∃ n, n = hs.length := ⟨_, rfl⟩
    rw [← hnn] at HH HC HMk2 HPu HJn ⊢
    have HSz := hidden (encR_sz (.slice sa n sc) (nd k a b c d) HL.out)
    obtain ⟨N, hNn⟩ : ∃ N, N = nd k a b c d := ⟨_, rfl⟩
    rw [← hNn] at HC HL HEn2 HSz ⊢
    obtain ⟨T, hT⟩ : ∃ T, T = txN k a b c d := ⟨_, rfl⟩
    rw [← hT] at HEn2 HTx HJn
    obtain ⟨fp, hup⟩ := u_proof
    have HUP := hidden hup
    clear HMk HEn hn hex hfl hpl hnn hNn hT hN hL h0 ho hoE hk2 hup
    go_enter Tryz.func7, Tryz.ntmps7
    go_wp2_with (first
      | ((with_reducible refine at_bxd 1 ?_); refine wpList_bx _ rfl _ _ rfl _ rfl ?_; intro w1 g1 hg1 hl1 B1 b1; have HB1 := hidden B1; have Hb1 := hidden b1; clear hg1 hl1 B1 b1)
      | ((with_reducible refine at_ldd 11 1 ?_); refine wpList_lds _ rfl _ _ rfl g1 _ _ rfl HB1.out HUP.out HSz.out ?_)
      | (go_at_call 21; refine (HC.out _ Hb1.out).mono ?_; rintro e w2 ⟨rfl, b2⟩; have HB2 := hidden (HB1.out.grow b2); have Hb2 := hidden (grow_trans Hb1.out b2); clear b2; have cx := proof_side HB2.out)
      | (go_at_call 22; refine (HPu.out _).mono ?_; rintro e w3 ⟨v3, sp3, rfl, o3, b3⟩; obtain ⟨a3, c3, rfl⟩ := o3.slice; have HO3 := hidden o3.reads; have HB3 := hidden (HB2.out.grow b3); have Hb3 := hidden (grow_trans Hb2.out b3); clear b3 o3 cx)
      | ((with_reducible refine at_ldd 25 24 ?_); refine wpList_lde _ rfl _ rfl g1 _ _ N rfl HB3.out HL.out ?_)
      | (go_at_call 23; refine (HEn2.out _).mono ?_; rintro e w4 ⟨v4, sp4, rfl, o4, b4⟩; obtain ⟨a4, c4, rfl⟩ := o4.slice; have HO34 := hidden (HO3.out.grow b4); have HO4 := hidden o4.reads; have HB4 := hidden (HB3.out.grow b4); have Hb4 := hidden (grow_trans Hb3.out b4); clear b4 o4; have cx := proof_side HB4.out)
      | (go_at_call 24; refine (HMk2.out _ Hb4.out).mono ?_; rintro e w5 ⟨v5, v6, sp5, rfl, o5, o6, b5⟩; obtain ⟨a5, c5, rfl⟩ := o5.slice; obtain ⟨a6, c6, rfl⟩ := o6.slice; have HO35 := hidden (HO34.out.grow b5); have HO45 := hidden (HO4.out.grow b5); have HO5 := hidden o5.reads; have HO6 := hidden o6.reads; have Hb5 := hidden (grow_trans Hb4.out b5); clear b5 o5 o6 cx)
      | (go_at_call 25; refine (HJn.out _ _ _ _ _ HO35.out HO5.out HO6.out HO45.out).mono ?_; rintro e w6 ⟨v7, sp7, rfl, o7, b7⟩; have HO7 := hidden o7; have Hb7 := hidden b7; clear o7 b7))
    exact HPost.out _ sp7 w6 (HO7.out.mono Hb5.out.size) (grow_trans Hb5.out Hb7.out)
  · have hex : exP hs k a b c d = [] := if_neg h0
    rw [hex] at HPost
    obtain ⟨E, hE⟩ : ∃ E, E = chE hs k a b c d := ⟨_, rfl⟩
    rw [← hE] at HC HPost h0
    obtain ⟨sa, sc, rfl, _⟩ := hh
    obtain ⟨n, hnn⟩ : ∃ n, n = hs.length := ⟨_, rfl⟩
    rw [← hnn] at HC ⊢
    have HSz := hidden (encR_sz (.slice sa n sc) (nd k a b c d) HL.out)
    obtain ⟨N, hNn⟩ : ∃ N, N = nd k a b c d := ⟨_, rfl⟩
    rw [← hNn] at HC HSz ⊢
    obtain ⟨fp, hup⟩ := u_proof
    have HUP := hidden hup
    have h24 : E = 2 ∨ E = 4 := by have := chE_in hs k a b c d; rw [← hE] at this; omega
    clear HEn hex hE hnn hNn hN hL hup h0
    rcases h24 with rfl | rfl
    all_goals (
      go_enter Tryz.func7, Tryz.ntmps7
      go_wp2_with (first
        | ((with_reducible refine at_bxd 1 ?_); refine wpList_bx _ rfl _ _ rfl _ rfl ?_; intro w1 g1 hg1 hl1 B1 b1; have HB1 := hidden B1; have Hb1 := hidden b1; clear hg1 hl1 B1 b1)
        | ((with_reducible refine at_ldd 11 1 ?_); refine wpList_lds _ rfl _ _ rfl g1 _ _ rfl HB1.out HUP.out HSz.out ?_)
        | (go_at_call 21; refine (HC.out _ Hb1.out).mono ?_; rintro e w2 ⟨rfl, b2⟩; have Hb2 := hidden (grow_trans Hb1.out b2); clear b2))
      exact HPost.out _ [] w2 (Own.nil _ _) Hb2.out)

end Go.Proofs.YtpihigcnoifcfaaGreatDoor

/- Rows of digests of the call's own: no proof's block is theirs; an older base will do. -/
namespace Go.Proofs.YtpihigcnoifcfaaGreatDoor
set_option maxRecDepth 20000
open Go.RowKit

theorem own_ne {w : World} {base : Nat} {v : Value} {n : Nat} {xs : List Value} {g : Nat} {cs : Array Value} (h : w.ownsRow base 25 32 v n xs) (hb : Blk w g 35 cs) : some g ≠ v.ownBlock := by
  rcases h.2 with ⟨rfl, _⟩ | ⟨g', cap, cur, rfl, _, hg, _⟩
  · simp [Value.ownBlock]
  · intro e
    obtain rfl : g = g' := by simpa [Value.ownBlock] using e
    have hb' : w.heap[g]? = some (.cells cs 35 (0, 0)) := hb
    rw [hb'] at hg
    injection hg with hg
    injection hg with _ ht
    exact absurd ht (by decide)
theorem own_base {w : World} {base base' : Nat} {v : Value} {n : Nat} {xs : List Value} (h : w.ownsRow base 25 32 v n xs) (hb : base' ≤ base) : w.ownsRow base' 25 32 v n xs := by
  refine ⟨h.1, h.2.imp id ?_⟩
  rintro ⟨g, cap, cur, e1, e2, e3⟩
  exact ⟨g, cap, cur, e1, Nat.le_trans hb e2, e3⟩
theorem own_slice {w : World} {base : Nat} {v : Value} {n : Nat} {xs : List Value} (h : w.ownsRow base 25 32 v n xs) : ∃ a c, v = .slice a n c := by
  rcases h.2 with ⟨e, e2⟩ | ⟨g', cap', cur, e, _⟩
  · exact ⟨none, 0, by rw [e, e2]⟩
  · exact ⟨_, _, e⟩

theorem rep_nd : List.replicate 129 (0 : Int) = nd 0 z32 z32 z32 z32 := by rfl

end Go.Proofs.YtpihigcnoifcfaaGreatDoor

/- pack.Decode as a contract; readSides of bytes too few, or of too many sides. -/
namespace Go.Proofs.YtpihigcnoifcfaaGreatDoor
set_option maxRecDepth 20000
open Go.RowKit

/-- How many sides U16 tells. -/
def pN0 (zs : List Int) : Nat := if 2 ≤ zs.length then pN zs else 0
theorem num_head0 {zs : List Int} (hb : Bytes zs) : (if 2 ≤ zs.length then numOf (zs.take 2) else 0) = (pN0 zs : Int) ∧ pN0 zs ≤ 65535 := by
  unfold pN0
  by_cases h : 2 ≤ zs.length
  · rw [if_pos h, if_pos h]
    exact ⟨(head_two hb h).2.1, (head_two hb h).2.2⟩
  · rw [if_neg h, if_neg h]
    exact ⟨rfl, by omega⟩
/-- What is left behind the bits, and whether the reader is bad there. -/
def pT0 (zs : List Int) : List Int × List Int × Bool := tk (tk false zs 2).2.2 (tk false zs 2).2.1 (by7 (pN0 zs))
theorem pT0_bad {zs : List Int} (h : ¬ fitD zs) : (pT0 zs).2.2 = true ∨ 256 < pN0 zs := by
  unfold pT0 pN0
  by_cases h2 : 2 ≤ zs.length
  · rw [tk_ok h2, if_pos h2]
    by_cases h3 : by7 (pN zs) ≤ (zs.drop 2).length
    · right
      rw [List.length_drop] at h3
      have : ¬ pN zs ≤ 256 := fun q => h ⟨by omega, q⟩
      omega
    · left
      have h4 : (zs.drop 2).length < by7 (pN zs) := by omega
      show (tk false (zs.drop 2) (by7 (pN zs))).2.2 = true
      rw [tk_few h4]
  · left
    have h4 : zs.length < 2 := by omega
    rw [tk_few h4]
    show (tk true zs _).2.2 = true
    rw [tk_bad]

set_option maxHeartbeats 4000000 in
theorem readSides_bad (b : Nat) (zs : List Int) (o : Option Nat) (w : World) (h : Rd w b o zs false) (hby : Bytes zs) (hf : ¬ fitD zs) :
    Calls Tryz.prog 42 #[.pointer (some ⟨b, 0, none⟩)] w fun e w' => ∃ zs' bad', e = .returned (.tuple #[.slice none 0 0, .bool false]) ∧ Rd w' b o zs' bad' ∧ w.grownBy w' (some b) := by
  have HU : Hid (Calls Tryz.prog 64 #[.pointer (some ⟨b, 0, none⟩)] w fun e w' => e = .returned (.int .i64 (pN0 zs : Int)) ∧ Rd w' b o (tk false zs 2).2.1 (tk false zs 2).2.2 ∧ w.grownBy w' (some b)) := by
    have := rd_u16 b zs o w h
    rwa [(num_head0 hby).1] at this
  have HT : Hid (∀ w', Rd w' b o (tk false zs 2).2.1 (tk false zs 2).2.2 → Calls Tryz.prog 44 #[.pointer (some ⟨b, 0, none⟩), .int .i64 (by7 (pN0 zs) : Int)] w' fun e w'' => ∃ a l c, e = .returned (.slice a l c) ∧ Rd w'' b o (pT0 zs).2.1 (pT0 zs).2.2 ∧ w'.grownBy w'' (some b)) := fun w' hr => (rd_take b (by7 (pN0 zs)) _ _ o w' hr).mono fun e w'' ⟨a, c, sp, h1, _, h3, h4⟩ => ⟨a, _, c, h1, h3, h4⟩
  have hc := pT0_bad hf
  have hle := (num_head0 hby).2
  clear h hby hf
  generalize pT0 zs = P at *
  obtain ⟨P1, P2, bad⟩ := P
  generalize tk false zs 2 = T at *
  generalize pN0 zs = n at *
  simp only [] at HT hc
  obtain ⟨m, hm⟩ : ∃ m, m = by7 n := ⟨_, rfl⟩
  have HBF : Hid (∀ w, Calls Tryz.prog 52 #[.int .i64 n] w fun e w' => e = .returned (.int .i64 m) ∧ w' = w) := fun w => by rw [hm]; exact bytesFor_any n w hle
  rw [← hm] at HT
  clear hm hle
  have HBd : Hid (∀ w', Rd w' b o P2 bad → Calls Tryz.prog 65 #[.pointer (some ⟨b, 0, none⟩)] w' fun e w'' => e = .returned (.bool bad) ∧ w'' = w') := fun w' h => rd_bad b P2 bad w' o h
  cases bad with
  | true =>
    clear hc
    go_enter Tryz.func42, Tryz.ntmps42
    go_wp2_with (first
      | (go_at_call 64; refine HU.out.mono ?_; rintro e w1 ⟨rfl, r1, g1⟩; have HR1 := hidden r1; have HG1 := hidden g1; clear r1 g1)
      | (go_at_call 52; refine (HBF.out _).mono ?_; rintro e w1 ⟨rfl, rfl⟩)
      | (go_at_call 44; refine (HT.out _ HR1.out).mono ?_; rintro e w2 ⟨a5, l5, c5, rfl, r2, g2⟩; have HR2 := hidden r2; have HG2 := hidden (grown_trans HG1.out g2); clear r2 g2)
      | (go_at_call 65; refine (HBd.out _ HR2.out).mono ?_; rintro e w2 ⟨rfl, rfl⟩))
    go_ret2
    exact ⟨_, _, rfl, HR2.out, HG2.out⟩
  | false =>
    have hn : 256 < n := by
      rcases hc with hc | hc
      · simp at hc
      · exact hc
    have zn : (256 : Int) < (n : Int) := by omega
    clear hc
    go_enter Tryz.func42, Tryz.ntmps42
    go_wp2_with (first
      | (go_at_call 64; refine HU.out.mono ?_; rintro e w1 ⟨rfl, r1, g1⟩; have HR1 := hidden r1; have HG1 := hidden g1; clear r1 g1)
      | (go_at_call 52; refine (HBF.out _).mono ?_; rintro e w1 ⟨rfl, rfl⟩)
      | (go_at_call 44; refine (HT.out _ HR1.out).mono ?_; rintro e w2 ⟨a5, l5, c5, rfl, r2, g2⟩; have HR2 := hidden r2; have HG2 := hidden (grown_trans HG1.out g2); clear r2 g2)
      | (go_at_call 65; refine (HBd.out _ HR2.out).mono ?_; rintro e w2 ⟨rfl, rfl⟩))
    go_ret2
    exact ⟨_, _, rfl, HR2.out, HG2.out⟩

/-! ### Decode -/
/-- What Decode tells: the sides, the end, the error. -/
def dpH (zs : List Int) : List (List Int) := if okD zs then (pR zs).1 else []
def dpN (zs : List Int) : List Int := if okD zs then dcN (pR zs).2.1 else nd 0 z32 z32 z32 z32
def dpE (zs : List Int) : Int := if okD zs then 0 else 10
def DecPP (zs : List Int) (w : World) (e : Ending) (w' : World) : Prop :=
  ∃ a c, e = .returned (.tuple #[.agg (encR (.slice a (dpH zs).length c) (dpN zs)).toArray, .int .i64 (dpE zs)]) ∧ w'.ownsRow w.heap.size 25 32 (.slice a (dpH zs).length c) (dpH zs).length (flatH (dpH zs)) ∧ Below w.heap.size w w'
theorem decPP_no {zs : List Int} (h : ¬ okD zs) (w w' : World) (hb : Below w.heap.size w w') : DecPP zs w (.returned (.tuple #[.agg (encR (.slice none 0 0) (nd 0 z32 z32 z32 z32)).toArray, .int .i64 10])) w' :=
  ⟨none, 0, by rw [dpH, dpN, dpE, if_neg h, if_neg h, if_neg h]; rfl, by rw [dpH, if_neg h]; exact World.ownsRow_nil _ _ _ _, hb⟩
theorem decPP_ok {zs : List Int} (h : okD zs) {w w' : World} {a : Option Addr} {c : Nat} (ho : w'.ownsRow w.heap.size 25 32 (.slice a (pN zs) c) (pN zs) (flatH (pR zs).1)) (hb : Below w.heap.size w w') : DecPP zs w (.returned (.tuple #[.agg (encR (.slice a (pN zs) c) (dcN (pR zs).2.1)).toArray, .int .i64 0])) w' := by
  have hl : (dpH zs).length = pN zs := by rw [dpH, if_pos h, pR_len]
  refine ⟨a, c, by rw [hl, dpN, dpE, if_pos h, if_pos h], ?_, hb⟩
  rw [hl, dpH, if_pos h]
  exact ho
/-- What is left to be the end. -/
def pEnd (zs : List Int) : List Int := if (pR zs).2.2 = true then [] else (pR zs).2.1
theorem okD_parts {zs : List Int} (hb : Bytes zs) (hf : fitD zs) {k : Int} {a b c d : List Int} (hN : dcN (pEnd zs) = nd k a b c d) (hNd : Nd k a b c d) : okD zs ↔ decide (pB zs = bitsL (pR zs).1) = true ∧ dcE (pEnd zs) = 0 ∧ chE (pR zs).1 k a b c d = 0 := by
  have hl : ¬ 256 < (pR zs).1.length := by rw [pR_len]; have := hf.2; omega
  by_cases hx : (pR zs).2.2 = true
  · have he : dcE (pEnd zs) = 10 := by rw [pEnd, if_pos hx]; rfl
    constructor
    · intro h
      have := h.2.1
      rw [hx] at this
      exact absurd this (by simp)
    · rintro ⟨_, h, _⟩
      rw [he] at h
      omega
  · have he : pEnd zs = (pR zs).2.1 := by rw [pEnd, if_neg hx]
    rw [he] at hN ⊢
    have hx' : (pR zs).2.2 = false := by simpa using hx
    constructor
    · intro h
      exact ⟨decide_eq_true h.2.2.1.symm, h.2.2.2.1, (okD_enc hb h hNd hN).1⟩
    · rintro ⟨h1, h2, h3⟩
      refine ⟨hf, hx', (of_decide_eq_true h1).symm, h2, ?_⟩
      rw [hN]
      exact (chE_ok h3).2.1

theorem pEnd_bytes {zs : List Int} (hb : Bytes zs) : Bytes (pEnd zs) := by
  unfold pEnd
  split
  · exact Bytes.nil
  · exact pR_bytes hb

theorem dcE_in (zs : List Int) : dcE zs = 0 ∨ dcE zs = 10 := dcE_cases zs

set_option maxRecDepth 100000 in
set_option maxHeartbeats 8000000 in
theorem pkdecode_any (v : Value) (zs : List Int) (w : World) (h : Reads w v zs) (hl : zs.length ≤ 140737488355328) (hL : Laid w) : Calls Tryz.prog 18 #[v] w (DecPP zs w) := by
  have hb : Bytes zs := by obtain ⟨_, _, _, _, _, hb, _⟩ := h; exact hb
  have HNw : Hid (∀ w0, Below w.heap.size w w0 → Calls Tryz.prog 41 #[v] w0 fun e w' => ∃ b o, e = .returned (.pointer (some ⟨b, 0, none⟩)) ∧ w0.heap.size ≤ b ∧ (∀ k, o = some k → w0.heap.size ≤ k ∧ k < w'.heap.size) ∧ Rd w' b o zs false ∧ Below w0.heap.size w0 w') := fun w0 q => onew_any v zs w0 (h.grow q) hl
  have HLf : Hid (∀ b o zs' bad w', Rd w' b o zs' bad → Calls Tryz.prog 45 #[.pointer (some ⟨b, 0, none⟩)] w' fun e w'' => e = .returned (.int .i64 (if bad then 0 else zs'.length : Nat)) ∧ w'' = w') := fun b o zs' bad w' h => rd_left b zs' bad w' o h
  have HTk : Hid (∀ b o zs' bad w' (n : Nat), Rd w' b o zs' bad → n = (if bad then 0 else zs'.length) → Calls Tryz.prog 44 #[.pointer (some ⟨b, 0, none⟩), .int .i64 (n : Int)] w' fun e w'' => ∃ a l c, e = .returned (.slice a l c) ∧ Reads w'' (.slice a l c) (if bad = true then [] else zs') ∧ w'.grownBy w'' (some b)) := fun b o zs' bad w' n h hn => by
    refine (rd_take b n zs' bad o w' h).mono ?_
    rintro e w'' ⟨a, c, sp, h1, h2, h3, h4⟩
    refine ⟨a, _, c, h1, ?_, h4⟩
    have := h2.reads
    cases bad with
    | true =>
      rw [tk_bad] at this ⊢
      exact this
    | false =>
      have e1 : tk false zs' n = (zs', [], false) := by
        rw [tk_ok (by rw [hn]; exact Nat.le_refl _), hn]
        simp
      rw [e1] at this ⊢
      exact this
  obtain ⟨va, vc, rfl, _⟩ := h
  obtain ⟨zl, hzl⟩ : ∃ zl, zl = zs.length := ⟨_, rfl⟩
  rw [← hzl] at HNw ⊢
  obtain ⟨Z, hZ⟩ : ∃ Z, Z = nd 0 z32 z32 z32 z32 := ⟨_, rfl⟩
  have HB0 : Hid (Tryz.prog.built 35 [] = some (encR (.slice none 0 0) Z).toArray) := by rw [hZ]; exact built_proof0
  have HSz0 : Hid ((Tryz.prog.info? 35).map (·.size) = some (encR (.slice none 0 0) Z).toArray.size ∧ (encR (.slice none 0 0) (List.replicate 129 0)).toArray.size = (encR (.slice none 0 0) Z).toArray.size) := ⟨encR_sz _ Z (by rw [hZ]; rfl), by rw [hZ]; rfl⟩
  obtain ⟨fp, hup⟩ := u_proof
  have HUP := hidden hup
  obtain ⟨fs, hu⟩ := u_node
  have HU := hidden hu
  by_cases hf : fitD zs
  · obtain ⟨k, a, b, c, d, hN, hNd⟩ := dc_nd (pEnd zs) (pEnd_bytes hb)
    have HRs : Hid (∀ b o w', Rd w' b o zs false → Below w.heap.size w w' → w.heap.size ≤ b → (∀ k, o = some k → k < w'.heap.size) → Calls Tryz.prog 42 #[.pointer (some ⟨b, 0, none⟩)] w' (RsPost zs b o w')) := fun b o w' h1 h2 h3 h4 => readSides_ok b zs o w w' h1 hb hf hL h2 h3 h4
    have HDc : Hid (∀ w' u, Reads w' u (pEnd zs) → Calls Tryz.prog 43 #[u] w' fun e w'' => e = .returned (.tuple #[.agg (B (nd k a b c d)), .int .i64 (dcE (pEnd zs))]) ∧ Below w'.heap.size w' w'') := fun w' u h => by
      have := decode_any u _ w' h
      unfold DecPost at this
      rwa [hN] at this
    have HCk : Hid (∀ w' a' c', w'.ownsRow w.heap.size 25 32 (.slice a' (pN zs) c') (pN zs) (flatH (pR zs).1) → Calls Tryz.prog 21 #[.agg (encR (.slice a' (pN zs) c') (nd k a b c d)).toArray] w' fun e w'' => e = .returned (.int .i64 (chE (pR zs).1 k a b c d)) ∧ Below w'.heap.size w' w'') := fun w' a' c' ho => pkcheck_any _ _ k a b c d w' (hsAt_own (base := w.heap.size) (by rw [pR_len]; exact ho) (pR_dg hb)) hNd
    have hokd := okD_parts hb hf hN hNd
    have HNo : Hid (¬ okD zs → ∀ w', Below w.heap.size w w' → DecPP zs w (.returned (.tuple #[.agg (encR (.slice none 0 0) Z).toArray, .int .i64 10])) w') := fun h w' hb => by rw [hZ]; exact decPP_no h w w' hb
    have HOk : Hid (okD zs → ∀ w' a' c', w'.ownsRow w.heap.size 25 32 (.slice a' (pN zs) c') (pN zs) (flatH (pR zs).1) → Below w.heap.size w w' → DecPP zs w (.returned (.tuple #[.agg (encR (.slice a' (pN zs) c') (nd k a b c d)).toArray, .int .i64 0])) w') := fun h w' a' c' h1 h2 => by
      have e : dcN (pR zs).2.1 = nd k a b c d := by
        have hx := h.2.1
        rw [← hN, pEnd, if_neg (by rw [hx]; simp)]
      rw [← e]
      exact decPP_ok h h1 h2
    have HPE : Hid ((if (pR zs).2.2 = true then [] else (pR zs).2.1) = pEnd zs) := rfl
    generalize HE : DecPP zs w = Post at HNo HOk ⊢
    have hn256 := hf.2
    have HBu : Hid (∀ a' c', Tryz.prog.built 35 [(0, .slice a' (pN zs) c'), (1, .agg (B (nd k a b c d)))] = some (encR (.slice a' (pN zs) c') (nd k a b c d)).toArray) := fun a' c' => built_proof a' _ c' _ hNd.length
    have HSz : Hid (∀ a' c', (Tryz.prog.info? 35).map (·.size) = some (encR (.slice a' (pN zs) c') (nd k a b c d)).toArray.size ∧ (encR (.slice none 0 0) (List.replicate 129 0)).toArray.size = (encR (.slice a' (pN zs) c') (nd k a b c d)).toArray.size) := fun a' c' => ⟨encR_sz _ _ hNd.length, by simp [encR, hNd.length]⟩
    have HNZ := hidden hNd.size
    have HNL : Hid ((Tryz.prog.info? 33).map (·.size) = some (B (nd k a b c d)).size) := by show _ = _; rw [hNd.size]; exact size_node
    have HNL2 : Hid ((B (List.replicate 129 0)).size = (B (nd k a b c d)).size) := by show _ = _; rw [hNd.size]; rfl
    obtain ⟨n, hn⟩ : ∃ n, n = pN zs := ⟨_, rfl⟩
    have HRs2 : Hid (∀ b o w', Rd w' b o zs false → Below w.heap.size w w' → w.heap.size ≤ b → (∀ k, o = some k → k < w'.heap.size) → Calls Tryz.prog 42 #[.pointer (some ⟨b, 0, none⟩)] w' fun e w'' => ∃ a c, e = .returned (.tuple #[.slice a n c, .bool (decide (pB zs = bitsL (pR zs).1))]) ∧ Rd w'' b o (pR zs).2.1 (pR zs).2.2 ∧ w''.ownsRow w'.heap.size 25 32 (.slice a n c) n (flatH (pR zs).1) ∧ w'.grownBy w'' (some b)) := fun b o w' h1 h2 h3 h4 => by rw [hn]; exact HRs.out b o w' h1 h2 h3 h4
    obtain ⟨eb, heb⟩ : ∃ eb, eb = decide (pB zs = bitsL (pR zs).1) := ⟨_, rfl⟩
    obtain ⟨E, hEE⟩ : ∃ E, E = dcE (pEnd zs) := ⟨_, rfl⟩
    obtain ⟨C, hC⟩ : ∃ C, C = chE (pR zs).1 k a b c d := ⟨_, rfl⟩
    have hE10 : E = 0 ∨ E = 10 := by rw [hEE]; exact dcE_cases _
    have hC24 : C = 0 ∨ C = 2 ∨ C = 4 := by rw [hC]; exact chE_in _ _ _ _ _ _
    obtain ⟨M, hM⟩ : ∃ M, M = nd k a b c d := ⟨_, rfl⟩
    rw [← heb, ← hEE, ← hC] at hokd
    rw [← heb] at HRs2
    rw [← hM, ← hEE] at HDc
    rw [← hn, ← hM, ← hC] at HCk
    rw [← hn, ← hM] at HOk HBu HSz
    rw [← hM] at HNZ HNL HNL2
    generalize okD zs = OK at hokd HNo HOk
    generalize pEnd zs = T at *
    generalize (pR zs).2.1 = R1 at *
    generalize (pR zs).2.2 = R2 at *
    obtain ⟨LN, hLN⟩ : ∃ LN : Nat, LN = if R2 then 0 else R1.length := ⟨_, rfl⟩
    have HLf2 : Hid (∀ b o w', Rd w' b o R1 R2 → Calls Tryz.prog 45 #[.pointer (some ⟨b, 0, none⟩)] w' fun e w'' => e = .returned (.int .i64 (LN : Int)) ∧ w'' = w') := fun b o w' h => by rw [hLN]; exact HLf.out b o R1 R2 w' h
    have HTk2 : Hid (∀ b o w', Rd w' b o R1 R2 → Calls Tryz.prog 44 #[.pointer (some ⟨b, 0, none⟩), .int .i64 (LN : Int)] w' fun e w'' => ∃ a l c, e = .returned (.slice a l c) ∧ Reads w'' (.slice a l c) T ∧ w'.grownBy w'' (some b)) := fun b o w' h => by rw [← HPE.out]; exact HTk.out b o R1 R2 w' LN h hLN
    generalize flatH (pR zs).1 = FS at *
    clear HRs HE hf hN hNd hb hn heb hEE hC hM hl hzl hL hu hup hn256 HLf HTk HPE hLN hZ
    cases eb with
    | false =>
      replace HNo := hidden (HNo.out (fun h => by have := hokd.1 h; simp at this))
      clear hokd HOk hE10 hC24
      go_enter Tryz.func18, Tryz.ntmps18
      go_wp2_with (first
        | ((with_reducible refine at_ald 2 ?_); refine wpList_al _ rfl _ rfl _ zero_proof ?_; intro w1 g2 hg2 hl2 B2 b1; have HG2 := hidden hg2; have HB1 := hidden b1; have HBk := hidden B2; clear hg2 hl2 B2 b1)
        | (go_at_call 41; refine (HNw.out _ HB1.out).mono ?_; rintro e w2 ⟨b0, o, rfl, q1, q2, r2, b2⟩; have HR2 := hidden r2; have HB2 := hidden (grow_trans HB1.out b2); have HBk2 := hidden (HBk.out.grow b2); have HQ1 : Hid (w.heap.size ≤ b0 ∧ g2 ≠ b0 ∧ ∀ k, o = some k → k < w2.heap.size) := ⟨Nat.le_trans HB1.out.size q1, (by have := HBk.out.lt; omega), fun k h => (q2 k h).2⟩; clear q1 q2 r2 b2)
        | (go_at_call 42; refine (HRs2.out _ _ _ HR2.out HB2.out HQ1.out.1 HQ1.out.2.2).mono ?_; rintro e w3 ⟨a3, c3, rfl, r3, o3, g3⟩; have HR3 := hidden r3; have HO3 := hidden (own_base o3 HB2.out.size); have HB3 := hidden (below_row HB2.out g3 HQ1.out.1); have HBk3 := hidden (HBk2.out.apart g3 HQ1.out.2.1); have HOn : Hid ((Value.slice a3 n c3).ownBlock ≠ some b0) := (fun e => by have h1 := (o3.lt b0 e).1; have h2 := HR2.out.lt; omega); clear r3 o3 g3)
        | (go_at_call 45; refine (HLf2.out _ _ _ HR3.out).mono ?_; rintro e w3 ⟨rfl, rfl⟩)
        | (go_at_call 44; refine (HTk2.out _ _ _ HR3.out).mono ?_; rintro e w4 ⟨a4, l4, c4, rfl, r4, g4⟩; have HR4 := hidden r4; have HB4 := hidden (below_row HB3.out g4 HQ1.out.1); have HBk4 := hidden (HBk3.out.apart g4 HQ1.out.2.1); have HO4 := hidden (HO3.out.kept g4 (.inr HOn.out)); clear r4 g4)
        | (go_at_call 43; refine (HDc.out _ _ HR4.out).mono ?_; rintro e w5 ⟨rfl, b5⟩; have HB5 := hidden (grow_trans HB4.out b5); have HBk5 := hidden (HBk4.out.grow b5); have HO5 := hidden (ownsH_below HO4.out b5); clear b5)
        | ((with_reducible refine at_ald 7 ?_); refine wpList_al _ rfl _ rfl _ zero_node ?_; intro w6 g7 hg7 hl7 B7 b6; have HG7 := hidden hg7; have HB7 := hidden B7; have Hb6 := hidden b6; clear hg7 hl7 B7 b6)
        | ((with_reducible refine at_st 7 ?_); refine wpList_sto _ rfl _ _ _ rfl g7 _ _ rfl rfl HB7.out HNL.out HNL2.out (B_one _) ?_; intro w8 B8 r8; have HB8 := hidden B8; have b8 := below_row Hb6.out r8 HG7.out; have HBw8 := hidden (grow_trans HB5.out b8); have HBk8 := hidden (HBk5.out.grow b8); have HO8 := hidden (ownsH_below HO5.out b8); clear B8 r8 b8)
        | ((with_reducible refine at_ldd 26 7 ?_); refine wpList_lds _ rfl _ _ rfl g7 _ _ rfl HB8.out HU.out HNL.out ?_)
        | ((with_reducible refine at_bdd 27 ?_); refine wpList_bld _ rfl _ _ rfl _ (by rw [List.map_toArray]; exact HBu.out _ _) ?_)
        | ((with_reducible refine at_ald 9 ?_); refine wpList_al _ rfl _ rfl _ zero_proof ?_; intro w9 g9 hg9 hl9 B9 b9; have HG9 := hidden hg9; have HB9 := hidden B9; have Hb9 := hidden b9; clear hg9 hl9 B9 b9)
        | ((with_reducible refine at_st 9 ?_); refine wpList_sto _ rfl _ _ _ rfl g9 _ _ rfl rfl HB9.out (HSz.out _ _).1 (HSz.out _ _).2 (encR_one _ _ _ _) ?_; intro w10 B10 r10; have HB10 := hidden B10; have b10 := below_row Hb9.out r10 HG9.out; have HBw10 := hidden (grow_trans HBw8.out b10); have HBk10 := hidden (HBk8.out.grow b10); have HO10 := hidden (ownsH_below HO8.out b10); clear B10 r10 b10)
        | ((with_reducible refine at_ldd 35 9 ?_); refine wpList_ldsg _ rfl _ _ rfl g9 _ _ rfl HB10.out HUP.out (HSz.out _ _).1 ?_)
        | (go_at_call 21; refine (HCk.out _ _ _ HO10.out).mono ?_; rintro e w11 ⟨rfl, b11⟩; have HBw11 := hidden (grow_trans HBw10.out b11); have HBk11 := hidden (HBk10.out.grow b11); have HO11 := hidden (ownsH_below HO10.out b11); have HB11 := hidden (HB10.out.grow b11); clear b11)
        | ((with_reducible refine at_bdd 39 ?_); refine wpList_bld _ rfl _ _ rfl _ (by rw [List.map_toArray]; exact HB0.out) ?_)
        | ((with_reducible refine at_st 2 ?_); refine wpList_sto _ rfl _ _ _ rfl g2 _ (encR (.slice none 0 0) Z).toArray rfl rfl HBk10.out HSz0.out.1 HSz0.out.2 (encR_one _ _ _ _) ?_; intro w12 B12 r12))
      exact bodyPost_ret (v := .tuple #[.agg (encR (.slice none 0 0) Z).toArray, .int .i64 10]) (results_agg_tmp rfl _ _ g2 _ _ rfl rfl B12 HUP.out HSz0.out.1) rfl (HNo.out _ (below_row HBw10.out r12 HG2.out))
    | true =>
      rcases hE10 with rfl | rfl
      · rcases hC24 with rfl | rfl | rfl
        · replace HOk := hidden (HOk.out (hokd.2 ⟨rfl, rfl, rfl⟩))
          clear hokd HNo
          go_enter Tryz.func18, Tryz.ntmps18
          go_wp2_with (first
            | ((with_reducible refine at_ald 2 ?_); refine wpList_al _ rfl _ rfl _ zero_proof ?_; intro w1 g2 hg2 hl2 B2 b1; have HG2 := hidden hg2; have HB1 := hidden b1; have HBk := hidden B2; clear hg2 hl2 B2 b1)
            | (go_at_call 41; refine (HNw.out _ HB1.out).mono ?_; rintro e w2 ⟨b0, o, rfl, q1, q2, r2, b2⟩; have HR2 := hidden r2; have HB2 := hidden (grow_trans HB1.out b2); have HBk2 := hidden (HBk.out.grow b2); have HQ1 : Hid (w.heap.size ≤ b0 ∧ g2 ≠ b0 ∧ ∀ k, o = some k → k < w2.heap.size) := ⟨Nat.le_trans HB1.out.size q1, (by have := HBk.out.lt; omega), fun k h => (q2 k h).2⟩; clear q1 q2 r2 b2)
            | (go_at_call 42; refine (HRs2.out _ _ _ HR2.out HB2.out HQ1.out.1 HQ1.out.2.2).mono ?_; rintro e w3 ⟨a3, c3, rfl, r3, o3, g3⟩; have HR3 := hidden r3; have HO3 := hidden (own_base o3 HB2.out.size); have HB3 := hidden (below_row HB2.out g3 HQ1.out.1); have HBk3 := hidden (HBk2.out.apart g3 HQ1.out.2.1); have HOn : Hid ((Value.slice a3 n c3).ownBlock ≠ some b0) := (fun e => by have h1 := (o3.lt b0 e).1; have h2 := HR2.out.lt; omega); clear r3 o3 g3)
            | (go_at_call 45; refine (HLf2.out _ _ _ HR3.out).mono ?_; rintro e w3 ⟨rfl, rfl⟩)
            | (go_at_call 44; refine (HTk2.out _ _ _ HR3.out).mono ?_; rintro e w4 ⟨a4, l4, c4, rfl, r4, g4⟩; have HR4 := hidden r4; have HB4 := hidden (below_row HB3.out g4 HQ1.out.1); have HBk4 := hidden (HBk3.out.apart g4 HQ1.out.2.1); have HO4 := hidden (HO3.out.kept g4 (.inr HOn.out)); clear r4 g4)
            | (go_at_call 43; refine (HDc.out _ _ HR4.out).mono ?_; rintro e w5 ⟨rfl, b5⟩; have HB5 := hidden (grow_trans HB4.out b5); have HBk5 := hidden (HBk4.out.grow b5); have HO5 := hidden (ownsH_below HO4.out b5); clear b5)
            | ((with_reducible refine at_ald 7 ?_); refine wpList_al _ rfl _ rfl _ zero_node ?_; intro w6 g7 hg7 hl7 B7 b6; have HG7 := hidden hg7; have HB7 := hidden B7; have Hb6 := hidden b6; clear hg7 hl7 B7 b6)
            | ((with_reducible refine at_st 7 ?_); refine wpList_sto _ rfl _ _ _ rfl g7 _ _ rfl rfl HB7.out HNL.out HNL2.out (B_one _) ?_; intro w8 B8 r8; have HB8 := hidden B8; have b8 := below_row Hb6.out r8 HG7.out; have HBw8 := hidden (grow_trans HB5.out b8); have HBk8 := hidden (HBk5.out.grow b8); have HO8 := hidden (ownsH_below HO5.out b8); clear B8 r8 b8)
            | ((with_reducible refine at_ldd 26 7 ?_); refine wpList_lds _ rfl _ _ rfl g7 _ _ rfl HB8.out HU.out HNL.out ?_)
            | ((with_reducible refine at_bdd 27 ?_); refine wpList_bld _ rfl _ _ rfl _ (by rw [List.map_toArray]; exact HBu.out _ _) ?_)
            | ((with_reducible refine at_ald 9 ?_); refine wpList_al _ rfl _ rfl _ zero_proof ?_; intro w9 g9 hg9 hl9 B9 b9; have HG9 := hidden hg9; have HB9 := hidden B9; have Hb9 := hidden b9; clear hg9 hl9 B9 b9)
            | ((with_reducible refine at_st 9 ?_); refine wpList_sto _ rfl _ _ _ rfl g9 _ _ rfl rfl HB9.out (HSz.out _ _).1 (HSz.out _ _).2 (encR_one _ _ _ _) ?_; intro w10 B10 r10; have HB10 := hidden B10; have b10 := below_row Hb9.out r10 HG9.out; have HBw10 := hidden (grow_trans HBw8.out b10); have HBk10 := hidden (HBk8.out.grow b10); have HO10 := hidden (ownsH_below HO8.out b10); clear B10 r10 b10)
            | ((with_reducible refine at_ldd 35 9 ?_); refine wpList_ldsg _ rfl _ _ rfl g9 _ _ rfl HB10.out HUP.out (HSz.out _ _).1 ?_)
            | (go_at_call 21; refine (HCk.out _ _ _ HO10.out).mono ?_; rintro e w11 ⟨rfl, b11⟩; have HBw11 := hidden (grow_trans HBw10.out b11); have HBk11 := hidden (HBk10.out.grow b11); have HO11 := hidden (ownsH_below HO10.out b11); have HB11 := hidden (HB10.out.grow b11); clear b11)
            | ((with_reducible refine at_ldd 40 9 ?_); refine wpList_lds _ rfl _ _ rfl g9 _ _ rfl HB11.out HUP.out (HSz.out _ _).1 ?_)
            | ((with_reducible refine at_st 2 ?_); refine wpList_sto _ rfl _ _ _ rfl g2 _ (encR (.slice a3 n c3) M).toArray rfl rfl HBk11.out (HSz.out _ _).1 (HSz.out _ _).2 (encR_one _ _ _ _) ?_; intro w12 B12 r12))
          exact bodyPost_ret (v := .tuple #[.agg (encR (.slice a3 n c3) M).toArray, .int .i64 0]) (results_agg_tmp rfl _ _ g2 _ _ rfl rfl B12 HUP.out (HSz.out _ _).1) rfl (HOk.out _ a3 c3 (HO11.out.kept r12 (.inr (by intro e; have h1 := HO11.out; exact own_ne HO11.out HBk11.out e.symm))) (below_row HBw11.out r12 HG2.out))
        · replace HNo := hidden (HNo.out (fun h => by have := hokd.1 h; simp at this))
          clear hokd HOk
          go_enter Tryz.func18, Tryz.ntmps18
          go_wp2_with (first
            | ((with_reducible refine at_ald 2 ?_); refine wpList_al _ rfl _ rfl _ zero_proof ?_; intro w1 g2 hg2 hl2 B2 b1; have HG2 := hidden hg2; have HB1 := hidden b1; have HBk := hidden B2; clear hg2 hl2 B2 b1)
            | (go_at_call 41; refine (HNw.out _ HB1.out).mono ?_; rintro e w2 ⟨b0, o, rfl, q1, q2, r2, b2⟩; have HR2 := hidden r2; have HB2 := hidden (grow_trans HB1.out b2); have HBk2 := hidden (HBk.out.grow b2); have HQ1 : Hid (w.heap.size ≤ b0 ∧ g2 ≠ b0 ∧ ∀ k, o = some k → k < w2.heap.size) := ⟨Nat.le_trans HB1.out.size q1, (by have := HBk.out.lt; omega), fun k h => (q2 k h).2⟩; clear q1 q2 r2 b2)
            | (go_at_call 42; refine (HRs2.out _ _ _ HR2.out HB2.out HQ1.out.1 HQ1.out.2.2).mono ?_; rintro e w3 ⟨a3, c3, rfl, r3, o3, g3⟩; have HR3 := hidden r3; have HO3 := hidden (own_base o3 HB2.out.size); have HB3 := hidden (below_row HB2.out g3 HQ1.out.1); have HBk3 := hidden (HBk2.out.apart g3 HQ1.out.2.1); have HOn : Hid ((Value.slice a3 n c3).ownBlock ≠ some b0) := (fun e => by have h1 := (o3.lt b0 e).1; have h2 := HR2.out.lt; omega); clear r3 o3 g3)
            | (go_at_call 45; refine (HLf2.out _ _ _ HR3.out).mono ?_; rintro e w3 ⟨rfl, rfl⟩)
            | (go_at_call 44; refine (HTk2.out _ _ _ HR3.out).mono ?_; rintro e w4 ⟨a4, l4, c4, rfl, r4, g4⟩; have HR4 := hidden r4; have HB4 := hidden (below_row HB3.out g4 HQ1.out.1); have HBk4 := hidden (HBk3.out.apart g4 HQ1.out.2.1); have HO4 := hidden (HO3.out.kept g4 (.inr HOn.out)); clear r4 g4)
            | (go_at_call 43; refine (HDc.out _ _ HR4.out).mono ?_; rintro e w5 ⟨rfl, b5⟩; have HB5 := hidden (grow_trans HB4.out b5); have HBk5 := hidden (HBk4.out.grow b5); have HO5 := hidden (ownsH_below HO4.out b5); clear b5)
            | ((with_reducible refine at_ald 7 ?_); refine wpList_al _ rfl _ rfl _ zero_node ?_; intro w6 g7 hg7 hl7 B7 b6; have HG7 := hidden hg7; have HB7 := hidden B7; have Hb6 := hidden b6; clear hg7 hl7 B7 b6)
            | ((with_reducible refine at_st 7 ?_); refine wpList_sto _ rfl _ _ _ rfl g7 _ _ rfl rfl HB7.out HNL.out HNL2.out (B_one _) ?_; intro w8 B8 r8; have HB8 := hidden B8; have b8 := below_row Hb6.out r8 HG7.out; have HBw8 := hidden (grow_trans HB5.out b8); have HBk8 := hidden (HBk5.out.grow b8); have HO8 := hidden (ownsH_below HO5.out b8); clear B8 r8 b8)
            | ((with_reducible refine at_ldd 26 7 ?_); refine wpList_lds _ rfl _ _ rfl g7 _ _ rfl HB8.out HU.out HNL.out ?_)
            | ((with_reducible refine at_bdd 27 ?_); refine wpList_bld _ rfl _ _ rfl _ (by rw [List.map_toArray]; exact HBu.out _ _) ?_)
            | ((with_reducible refine at_ald 9 ?_); refine wpList_al _ rfl _ rfl _ zero_proof ?_; intro w9 g9 hg9 hl9 B9 b9; have HG9 := hidden hg9; have HB9 := hidden B9; have Hb9 := hidden b9; clear hg9 hl9 B9 b9)
            | ((with_reducible refine at_st 9 ?_); refine wpList_sto _ rfl _ _ _ rfl g9 _ _ rfl rfl HB9.out (HSz.out _ _).1 (HSz.out _ _).2 (encR_one _ _ _ _) ?_; intro w10 B10 r10; have HB10 := hidden B10; have b10 := below_row Hb9.out r10 HG9.out; have HBw10 := hidden (grow_trans HBw8.out b10); have HBk10 := hidden (HBk8.out.grow b10); have HO10 := hidden (ownsH_below HO8.out b10); clear B10 r10 b10)
            | ((with_reducible refine at_ldd 35 9 ?_); refine wpList_ldsg _ rfl _ _ rfl g9 _ _ rfl HB10.out HUP.out (HSz.out _ _).1 ?_)
            | (go_at_call 21; refine (HCk.out _ _ _ HO10.out).mono ?_; rintro e w11 ⟨rfl, b11⟩; have HBw11 := hidden (grow_trans HBw10.out b11); have HBk11 := hidden (HBk10.out.grow b11); have HO11 := hidden (ownsH_below HO10.out b11); have HB11 := hidden (HB10.out.grow b11); clear b11)
            | ((with_reducible refine at_bdd 39 ?_); refine wpList_bld _ rfl _ _ rfl _ (by rw [List.map_toArray]; exact HB0.out) ?_)
            | ((with_reducible refine at_st 2 ?_); refine wpList_sto _ rfl _ _ _ rfl g2 _ (encR (.slice none 0 0) Z).toArray rfl rfl HBk11.out HSz0.out.1 HSz0.out.2 (encR_one _ _ _ _) ?_; intro w12 B12 r12))
          exact bodyPost_ret (v := .tuple #[.agg (encR (.slice none 0 0) Z).toArray, .int .i64 10]) (results_agg_tmp rfl _ _ g2 _ _ rfl rfl B12 HUP.out HSz0.out.1) rfl (HNo.out _ (below_row HBw11.out r12 HG2.out))
        · replace HNo := hidden (HNo.out (fun h => by have := hokd.1 h; simp at this))
          clear hokd HOk
          go_enter Tryz.func18, Tryz.ntmps18
          go_wp2_with (first
            | ((with_reducible refine at_ald 2 ?_); refine wpList_al _ rfl _ rfl _ zero_proof ?_; intro w1 g2 hg2 hl2 B2 b1; have HG2 := hidden hg2; have HB1 := hidden b1; have HBk := hidden B2; clear hg2 hl2 B2 b1)
            | (go_at_call 41; refine (HNw.out _ HB1.out).mono ?_; rintro e w2 ⟨b0, o, rfl, q1, q2, r2, b2⟩; have HR2 := hidden r2; have HB2 := hidden (grow_trans HB1.out b2); have HBk2 := hidden (HBk.out.grow b2); have HQ1 : Hid (w.heap.size ≤ b0 ∧ g2 ≠ b0 ∧ ∀ k, o = some k → k < w2.heap.size) := ⟨Nat.le_trans HB1.out.size q1, (by have := HBk.out.lt; omega), fun k h => (q2 k h).2⟩; clear q1 q2 r2 b2)
            | (go_at_call 42; refine (HRs2.out _ _ _ HR2.out HB2.out HQ1.out.1 HQ1.out.2.2).mono ?_; rintro e w3 ⟨a3, c3, rfl, r3, o3, g3⟩; have HR3 := hidden r3; have HO3 := hidden (own_base o3 HB2.out.size); have HB3 := hidden (below_row HB2.out g3 HQ1.out.1); have HBk3 := hidden (HBk2.out.apart g3 HQ1.out.2.1); have HOn : Hid ((Value.slice a3 n c3).ownBlock ≠ some b0) := (fun e => by have h1 := (o3.lt b0 e).1; have h2 := HR2.out.lt; omega); clear r3 o3 g3)
            | (go_at_call 45; refine (HLf2.out _ _ _ HR3.out).mono ?_; rintro e w3 ⟨rfl, rfl⟩)
            | (go_at_call 44; refine (HTk2.out _ _ _ HR3.out).mono ?_; rintro e w4 ⟨a4, l4, c4, rfl, r4, g4⟩; have HR4 := hidden r4; have HB4 := hidden (below_row HB3.out g4 HQ1.out.1); have HBk4 := hidden (HBk3.out.apart g4 HQ1.out.2.1); have HO4 := hidden (HO3.out.kept g4 (.inr HOn.out)); clear r4 g4)
            | (go_at_call 43; refine (HDc.out _ _ HR4.out).mono ?_; rintro e w5 ⟨rfl, b5⟩; have HB5 := hidden (grow_trans HB4.out b5); have HBk5 := hidden (HBk4.out.grow b5); have HO5 := hidden (ownsH_below HO4.out b5); clear b5)
            | ((with_reducible refine at_ald 7 ?_); refine wpList_al _ rfl _ rfl _ zero_node ?_; intro w6 g7 hg7 hl7 B7 b6; have HG7 := hidden hg7; have HB7 := hidden B7; have Hb6 := hidden b6; clear hg7 hl7 B7 b6)
            | ((with_reducible refine at_st 7 ?_); refine wpList_sto _ rfl _ _ _ rfl g7 _ _ rfl rfl HB7.out HNL.out HNL2.out (B_one _) ?_; intro w8 B8 r8; have HB8 := hidden B8; have b8 := below_row Hb6.out r8 HG7.out; have HBw8 := hidden (grow_trans HB5.out b8); have HBk8 := hidden (HBk5.out.grow b8); have HO8 := hidden (ownsH_below HO5.out b8); clear B8 r8 b8)
            | ((with_reducible refine at_ldd 26 7 ?_); refine wpList_lds _ rfl _ _ rfl g7 _ _ rfl HB8.out HU.out HNL.out ?_)
            | ((with_reducible refine at_bdd 27 ?_); refine wpList_bld _ rfl _ _ rfl _ (by rw [List.map_toArray]; exact HBu.out _ _) ?_)
            | ((with_reducible refine at_ald 9 ?_); refine wpList_al _ rfl _ rfl _ zero_proof ?_; intro w9 g9 hg9 hl9 B9 b9; have HG9 := hidden hg9; have HB9 := hidden B9; have Hb9 := hidden b9; clear hg9 hl9 B9 b9)
            | ((with_reducible refine at_st 9 ?_); refine wpList_sto _ rfl _ _ _ rfl g9 _ _ rfl rfl HB9.out (HSz.out _ _).1 (HSz.out _ _).2 (encR_one _ _ _ _) ?_; intro w10 B10 r10; have HB10 := hidden B10; have b10 := below_row Hb9.out r10 HG9.out; have HBw10 := hidden (grow_trans HBw8.out b10); have HBk10 := hidden (HBk8.out.grow b10); have HO10 := hidden (ownsH_below HO8.out b10); clear B10 r10 b10)
            | ((with_reducible refine at_ldd 35 9 ?_); refine wpList_ldsg _ rfl _ _ rfl g9 _ _ rfl HB10.out HUP.out (HSz.out _ _).1 ?_)
            | (go_at_call 21; refine (HCk.out _ _ _ HO10.out).mono ?_; rintro e w11 ⟨rfl, b11⟩; have HBw11 := hidden (grow_trans HBw10.out b11); have HBk11 := hidden (HBk10.out.grow b11); have HO11 := hidden (ownsH_below HO10.out b11); have HB11 := hidden (HB10.out.grow b11); clear b11)
            | ((with_reducible refine at_bdd 39 ?_); refine wpList_bld _ rfl _ _ rfl _ (by rw [List.map_toArray]; exact HB0.out) ?_)
            | ((with_reducible refine at_st 2 ?_); refine wpList_sto _ rfl _ _ _ rfl g2 _ (encR (.slice none 0 0) Z).toArray rfl rfl HBk11.out HSz0.out.1 HSz0.out.2 (encR_one _ _ _ _) ?_; intro w12 B12 r12))
          exact bodyPost_ret (v := .tuple #[.agg (encR (.slice none 0 0) Z).toArray, .int .i64 10]) (results_agg_tmp rfl _ _ g2 _ _ rfl rfl B12 HUP.out HSz0.out.1) rfl (HNo.out _ (below_row HBw11.out r12 HG2.out))
      · replace HNo := hidden (HNo.out (fun h => by have := hokd.1 h; simp at this))
        clear hokd HOk hC24
        go_enter Tryz.func18, Tryz.ntmps18
        go_wp2_with (first
          | ((with_reducible refine at_ald 2 ?_); refine wpList_al _ rfl _ rfl _ zero_proof ?_; intro w1 g2 hg2 hl2 B2 b1; have HG2 := hidden hg2; have HB1 := hidden b1; have HBk := hidden B2; clear hg2 hl2 B2 b1)
          | (go_at_call 41; refine (HNw.out _ HB1.out).mono ?_; rintro e w2 ⟨b0, o, rfl, q1, q2, r2, b2⟩; have HR2 := hidden r2; have HB2 := hidden (grow_trans HB1.out b2); have HBk2 := hidden (HBk.out.grow b2); have HQ1 : Hid (w.heap.size ≤ b0 ∧ g2 ≠ b0 ∧ ∀ k, o = some k → k < w2.heap.size) := ⟨Nat.le_trans HB1.out.size q1, (by have := HBk.out.lt; omega), fun k h => (q2 k h).2⟩; clear q1 q2 r2 b2)
          | (go_at_call 42; refine (HRs2.out _ _ _ HR2.out HB2.out HQ1.out.1 HQ1.out.2.2).mono ?_; rintro e w3 ⟨a3, c3, rfl, r3, o3, g3⟩; have HR3 := hidden r3; have HO3 := hidden (own_base o3 HB2.out.size); have HB3 := hidden (below_row HB2.out g3 HQ1.out.1); have HBk3 := hidden (HBk2.out.apart g3 HQ1.out.2.1); have HOn : Hid ((Value.slice a3 n c3).ownBlock ≠ some b0) := (fun e => by have h1 := (o3.lt b0 e).1; have h2 := HR2.out.lt; omega); clear r3 o3 g3)
          | (go_at_call 45; refine (HLf2.out _ _ _ HR3.out).mono ?_; rintro e w3 ⟨rfl, rfl⟩)
          | (go_at_call 44; refine (HTk2.out _ _ _ HR3.out).mono ?_; rintro e w4 ⟨a4, l4, c4, rfl, r4, g4⟩; have HR4 := hidden r4; have HB4 := hidden (below_row HB3.out g4 HQ1.out.1); have HBk4 := hidden (HBk3.out.apart g4 HQ1.out.2.1); have HO4 := hidden (HO3.out.kept g4 (.inr HOn.out)); clear r4 g4)
          | (go_at_call 43; refine (HDc.out _ _ HR4.out).mono ?_; rintro e w5 ⟨rfl, b5⟩; have HB5 := hidden (grow_trans HB4.out b5); have HBk5 := hidden (HBk4.out.grow b5); have HO5 := hidden (ownsH_below HO4.out b5); clear b5)
          | ((with_reducible refine at_ald 7 ?_); refine wpList_al _ rfl _ rfl _ zero_node ?_; intro w6 g7 hg7 hl7 B7 b6; have HG7 := hidden hg7; have HB7 := hidden B7; have Hb6 := hidden b6; clear hg7 hl7 B7 b6)
          | ((with_reducible refine at_st 7 ?_); refine wpList_sto _ rfl _ _ _ rfl g7 _ _ rfl rfl HB7.out HNL.out HNL2.out (B_one _) ?_; intro w8 B8 r8; have HB8 := hidden B8; have b8 := below_row Hb6.out r8 HG7.out; have HBw8 := hidden (grow_trans HB5.out b8); have HBk8 := hidden (HBk5.out.grow b8); have HO8 := hidden (ownsH_below HO5.out b8); clear B8 r8 b8)
          | ((with_reducible refine at_ldd 26 7 ?_); refine wpList_lds _ rfl _ _ rfl g7 _ _ rfl HB8.out HU.out HNL.out ?_)
          | ((with_reducible refine at_bdd 27 ?_); refine wpList_bld _ rfl _ _ rfl _ (by rw [List.map_toArray]; exact HBu.out _ _) ?_)
          | ((with_reducible refine at_ald 9 ?_); refine wpList_al _ rfl _ rfl _ zero_proof ?_; intro w9 g9 hg9 hl9 B9 b9; have HG9 := hidden hg9; have HB9 := hidden B9; have Hb9 := hidden b9; clear hg9 hl9 B9 b9)
          | ((with_reducible refine at_st 9 ?_); refine wpList_sto _ rfl _ _ _ rfl g9 _ _ rfl rfl HB9.out (HSz.out _ _).1 (HSz.out _ _).2 (encR_one _ _ _ _) ?_; intro w10 B10 r10; have HB10 := hidden B10; have b10 := below_row Hb9.out r10 HG9.out; have HBw10 := hidden (grow_trans HBw8.out b10); have HBk10 := hidden (HBk8.out.grow b10); have HO10 := hidden (ownsH_below HO8.out b10); clear B10 r10 b10)
          | ((with_reducible refine at_ldd 35 9 ?_); refine wpList_ldsg _ rfl _ _ rfl g9 _ _ rfl HB10.out HUP.out (HSz.out _ _).1 ?_)
          | (go_at_call 21; refine (HCk.out _ _ _ HO10.out).mono ?_; rintro e w11 ⟨rfl, b11⟩; have HBw11 := hidden (grow_trans HBw10.out b11); have HBk11 := hidden (HBk10.out.grow b11); have HO11 := hidden (ownsH_below HO10.out b11); have HB11 := hidden (HB10.out.grow b11); clear b11)
          | ((with_reducible refine at_bdd 39 ?_); refine wpList_bld _ rfl _ _ rfl _ (by rw [List.map_toArray]; exact HB0.out) ?_)
          | ((with_reducible refine at_st 2 ?_); refine wpList_sto _ rfl _ _ _ rfl g2 _ (encR (.slice none 0 0) Z).toArray rfl rfl HBk10.out HSz0.out.1 HSz0.out.2 (encR_one _ _ _ _) ?_; intro w12 B12 r12))
        exact bodyPost_ret (v := .tuple #[.agg (encR (.slice none 0 0) Z).toArray, .int .i64 10]) (results_agg_tmp rfl _ _ g2 _ _ rfl rfl B12 HUP.out HSz0.out.1) rfl (HNo.out _ (below_row HBw10.out r12 HG2.out))
  · have HRs : Hid (∀ b o w', Rd w' b o zs false → Calls Tryz.prog 42 #[.pointer (some ⟨b, 0, none⟩)] w' fun e w'' => ∃ zs' bad', e = .returned (.tuple #[.slice none 0 0, .bool false]) ∧ Rd w'' b o zs' bad' ∧ w'.grownBy w'' (some b)) := fun b o w' h1 => readSides_bad b zs o w' h1 hb hf
    have HNo : Hid (∀ w', Below w.heap.size w w' → DecPP zs w (.returned (.tuple #[.agg (encR (.slice none 0 0) Z).toArray, .int .i64 10])) w') := fun w' hb => by rw [hZ]; exact decPP_no (fun h => hf h.1) w w' hb
    have HDc : Hid (∀ w' u zs', Reads w' u zs' → Calls Tryz.prog 43 #[u] w' fun e w'' => ∃ M E, M.length = 129 ∧ e = .returned (.tuple #[.agg (B M), .int .i64 E]) ∧ Below w'.heap.size w' w'') := fun w' u zs' h => (decode_any u zs' w' h).mono fun e w'' ⟨h1, h2⟩ => by
      have hbz : Bytes zs' := by obtain ⟨_, _, _, _, _, hb, _⟩ := h; exact hb
      obtain ⟨k, a, b, c, d, hN, hNd⟩ := dc_nd zs' hbz
      exact ⟨_, _, by rw [hN]; exact hNd.length, h1, h2⟩
    have HNL : Hid (∀ M : List Int, M.length = 129 → (Tryz.prog.info? 33).map (·.size) = some (B M).size ∧ (B (List.replicate 129 0)).size = (B M).size) := fun M hM => ⟨by rw [B_size, hM]; exact size_node, by rw [B_size, B_size, hM]; rfl⟩
    have HBu : Hid (∀ M : List Int, M.length = 129 → Tryz.prog.built 35 [(0, .slice none 0 0), (1, .agg (B M))] = some (encR (.slice none 0 0) M).toArray) := fun M hM => built_proof none 0 0 M hM
    have HSz : Hid (∀ M : List Int, M.length = 129 → (Tryz.prog.info? 35).map (·.size) = some (encR (.slice none 0 0) M).toArray.size ∧ (encR (.slice none 0 0) (List.replicate 129 0)).toArray.size = (encR (.slice none 0 0) M).toArray.size) := fun M hM => ⟨encR_sz _ _ hM, by simp [encR, hM]⟩
    generalize HE : DecPP zs w = Post at HNo ⊢
    clear HE hf hb hl hzl hL hu hup hZ
    go_enter Tryz.func18, Tryz.ntmps18
    go_wp2_with (first
      | ((with_reducible refine at_ald 2 ?_); refine wpList_al _ rfl _ rfl _ zero_proof ?_; intro w1 g2 hg2 hl2 B2 b1; have HG2 := hidden hg2; have HB1 := hidden b1; have HBk := hidden B2; clear hg2 hl2 B2 b1)
      | (go_at_call 41; refine (HNw.out _ HB1.out).mono ?_; rintro e w2 ⟨b0, o, rfl, q1, q2, r2, b2⟩; have HR2 := hidden r2; have HB2 := hidden (grow_trans HB1.out b2); have HBk2 := hidden (HBk.out.grow b2); have HQ1 : Hid (w.heap.size ≤ b0 ∧ g2 ≠ b0) := ⟨Nat.le_trans HB1.out.size q1, (by have := HBk.out.lt; omega)⟩; clear q1 q2 r2 b2)
      | (go_at_call 42; refine (HRs.out _ _ _ HR2.out).mono ?_; rintro e w3 ⟨zs', bad', rfl, r3, g3⟩; have HR3 := hidden r3; have HB3 := hidden (below_row HB2.out g3 HQ1.out.1); have HBk3 := hidden (HBk2.out.apart g3 HQ1.out.2); clear r3 g3)
      | (go_at_call 45; refine (HLf.out _ _ _ _ _ HR3.out).mono ?_; rintro e w3 ⟨rfl, rfl⟩)
      | (go_at_call 44; refine (HTk.out _ _ _ _ _ _ HR3.out rfl).mono ?_; rintro e w4 ⟨a4, l4, c4, rfl, r4, g4⟩; have HR4 := hidden r4; have HB4 := hidden (below_row HB3.out g4 HQ1.out.1); have HBk4 := hidden (HBk3.out.apart g4 HQ1.out.2); clear r4 g4)
      | (go_at_call 43; refine (HDc.out _ _ _ HR4.out).mono ?_; rintro e w5 ⟨M, E, hM, rfl, b5⟩; have HM := hidden hM; have HB5 := hidden (grow_trans HB4.out b5); have HBk5 := hidden (HBk4.out.grow b5); clear b5 hM)
      | ((with_reducible refine at_ald 7 ?_); refine wpList_al _ rfl _ rfl _ zero_node ?_; intro w6 g7 hg7 hl7 B7 b6; have HG7 := hidden hg7; have HB7 := hidden B7; have Hb6 := hidden b6; clear hg7 hl7 B7 b6)
      | ((with_reducible refine at_st 7 ?_); refine wpList_sto _ rfl _ _ _ rfl g7 _ _ rfl rfl HB7.out (HNL.out M HM.out).1 (HNL.out M HM.out).2 (B_one _) ?_; intro w8 B8 r8; have HB8 := hidden B8; have b8 := below_row Hb6.out r8 HG7.out; have HBw8 := hidden (grow_trans HB5.out b8); have HBk8 := hidden (HBk5.out.grow b8); clear B8 r8 b8)
      | ((with_reducible refine at_ldd 26 7 ?_); refine wpList_lds _ rfl _ _ rfl g7 _ _ rfl HB8.out HU.out (HNL.out M HM.out).1 ?_)
      | ((with_reducible refine at_bdd 27 ?_); refine wpList_bld _ rfl _ _ rfl _ (by rw [List.map_toArray]; exact HBu.out M HM.out) ?_)
      | ((with_reducible refine at_ald 9 ?_); refine wpList_al _ rfl _ rfl _ zero_proof ?_; intro w9 g9 hg9 hl9 B9 b9; have HG9 := hidden hg9; have HB9 := hidden B9; have Hb9 := hidden b9; clear hg9 hl9 B9 b9)
      | ((with_reducible refine at_st 9 ?_); refine wpList_sto _ rfl _ _ _ rfl g9 _ _ rfl rfl HB9.out (HSz.out M HM.out).1 (HSz.out M HM.out).2 (encR_one _ _ _ _) ?_; intro w10 B10 r10; have b10 := below_row Hb9.out r10 HG9.out; have HBw10 := hidden (grow_trans HBw8.out b10); have HBk10 := hidden (HBk8.out.grow b10); clear B10 r10 b10)
      | ((with_reducible refine at_bdd 39 ?_); refine wpList_bld _ rfl _ _ rfl _ (by rw [List.map_toArray]; exact HB0.out) ?_)
      | ((with_reducible refine at_st 2 ?_); refine wpList_sto _ rfl _ _ _ rfl g2 _ (encR (.slice none 0 0) Z).toArray rfl rfl HBk10.out HSz0.out.1 HSz0.out.2 (encR_one _ _ _ _) ?_; intro w12 B12 r12))
    all_goals exact bodyPost_ret (v := .tuple #[.agg (encR (.slice none 0 0) Z).toArray, .int .i64 10]) (results_agg_tmp rfl _ _ g2 _ _ rfl rfl B12 HUP.out HSz0.out.1) rfl (HNo.out _ (below_row HBw10.out r12 HG2.out))


end Go.Proofs.YtpihigcnoifcfaaGreatDoor
