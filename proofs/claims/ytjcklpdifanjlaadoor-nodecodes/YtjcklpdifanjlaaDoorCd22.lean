/- Single bytes: their bits under xor, and, or, and not; a bit put, a byte filled up, a byte's next one; how many noughts lead. No word of the program. -/
import Derived.Test.YtjcklpdifanjlaaDoorCd21
import Derived.Laws.BitsAllLaws
import Derived.Test.YtjcklpdifanjlaaDoorCd05
import Derived.Laws.Cover3
namespace Go.Proofs.YtjcklpdifanjlaaDoor
set_option maxRecDepth 20000
open Go.RowKit

theorem bt_nat (n k : Nat) : bt (n : Int) k = if n.testBit (7 - k) then 1 else 0 := by
  have h : bt (n : Int) k = ((n / 2 ^ (7 - k) % 2 : Nat) : Int) := by unfold bt; norm_cast
  rw [h, Nat.testBit_eq_decide_div_mod_eq]
  have h2 : n / 2 ^ (7 - k) % 2 < 2 := Nat.mod_lt _ (by omega)
  by_cases e : n / 2 ^ (7 - k) % 2 = 1
  · simp [e]
  · have : n / 2 ^ (7 - k) % 2 = 0 := by omega
    simp [this]

theorem nat_of (x : Int) (h : 0 ≤ x ∧ x ≤ 255) : ∃ n : Nat, n < 256 ∧ x = n := ⟨x.toNat, by omega, by omega⟩

theorem bt_xor (x y : Int) (hx : 0 ≤ x ∧ x ≤ 255) (hy : 0 ≤ y ∧ y ≤ 255) (k : Nat) : bt (bits .xor .u8 x y) k = if bt x k = bt y k then 0 else 1 := by
  obtain ⟨m, hm, rfl⟩ := nat_of x hx
  obtain ⟨n, hn, rfl⟩ := nat_of y hy
  rw [u8_xor_nat m n hm hn, bt_nat, bt_nat, bt_nat, Nat.testBit_xor]
  cases m.testBit (7 - k) <;> cases n.testBit (7 - k) <;> simp
theorem bt_and (x y : Int) (hx : 0 ≤ x ∧ x ≤ 255) (hy : 0 ≤ y ∧ y ≤ 255) (k : Nat) : bt (bits .and .u8 x y) k = if bt y k = 1 then bt x k else 0 := by
  obtain ⟨m, hm, rfl⟩ := nat_of x hx
  obtain ⟨n, hn, rfl⟩ := nat_of y hy
  rw [u8_and_nat m n hm hn, bt_nat, bt_nat, bt_nat, Nat.testBit_and]
  cases m.testBit (7 - k) <;> cases n.testBit (7 - k) <;> simp
theorem bt_or (x y : Int) (hx : 0 ≤ x ∧ x ≤ 255) (hy : 0 ≤ y ∧ y ≤ 255) (k : Nat) : bt (bits .or .u8 x y) k = if bt y k = 1 then 1 else bt x k := by
  obtain ⟨m, hm, rfl⟩ := nat_of x hx
  obtain ⟨n, hn, rfl⟩ := nat_of y hy
  rw [u8_or_nat m n hm hn, bt_nat, bt_nat, bt_nat, Nat.testBit_or]
  cases m.testBit (7 - k) <;> cases n.testBit (7 - k) <;> simp
theorem bt_andNot (x y : Int) (hx : 0 ≤ x ∧ x ≤ 255) (hy : 0 ≤ y ∧ y ≤ 255) (k : Nat) (hk : k < 8) : bt (bits .andNot .u8 x y) k = if bt y k = 1 then 0 else bt x k := by
  obtain ⟨m, hm, rfl⟩ := nat_of x hx
  obtain ⟨n, hn, rfl⟩ := nat_of y hy
  have hc : bt ((255 - n : Nat) : Int) k = 1 - bt (n : Int) k := by
    have := (show ∀ n, n < 256 → ∀ k, k < 8 → (255 - n) / 2 ^ (7 - k) % 2 + n / 2 ^ (7 - k) % 2 = 1 from by decide +kernel) n hn k hk
    have h1 : ∀ q : Nat, bt (q : Int) k = ((q / 2 ^ (7 - k) % 2 : Nat) : Int) := by intro q; unfold bt; norm_cast
    rw [h1, h1]
    omega
  rw [bt_nat (255 - n)] at hc
  rw [u8_andNot_nat m n hm hn, bt_nat, Nat.testBit_and, bt_nat m k]
  have h4 := bt_two (n : Int) k
  generalize bt (n : Int) k = u at *
  cases m.testBit (7 - k) <;> cases e2 : (255 - n).testBit (7 - k) <;> rw [e2] at hc <;> simp at hc <;> rcases h4 with rfl | rfl <;> simp at hc ⊢

theorem bits_byte (op : BinOp) (a b : Int) : 0 ≤ bits op .u8 a b ∧ bits op .u8 a b ≤ 255 := bits_within op .u8 a b

/-- One bit alone. -/
theorem bt_pow (k j : Nat) (hk : k < 8) (hj : j < 8) : bt (2 ^ (7 - k)) j = if j = k then 1 else 0 := by
  have := (show ∀ k, k < 8 → ∀ j, j < 8 → 2 ^ (7 - k) / 2 ^ (7 - j) % 2 = if j = k then 1 else 0 from by decide +kernel) k hk j hj
  unfold bt
  by_cases e : j = k
  · rw [if_pos e] at this ⊢
    exact_mod_cast this
  · rw [if_neg e] at this ⊢
    exact_mod_cast this

/-- A bit turned. -/
theorem bt_flip (x : Int) (hx : 0 ≤ x ∧ x ≤ 255) (k j : Nat) (hk : k < 8) (hj : j < 8) : bt (bits .xor .u8 x (2 ^ (7 - k))) j = if j = k then 1 - bt x j else bt x j := by
  have hp : (0 : Int) ≤ 2 ^ (7 - k) ∧ (2 : Int) ^ (7 - k) ≤ 255 := by
    have := (show ∀ k, k < 8 → 2 ^ (7 - k) ≤ 255 from by decide +kernel) k hk
    have e : (2 : Int) ^ (7 - k) = ((2 ^ (7 - k) : Nat) : Int) := by rw [Int.natCast_pow]; rfl
    rw [e]
    exact ⟨Int.natCast_nonneg _, Int.ofNat_le.2 this⟩
  rw [bt_xor x _ hx hp, bt_pow k j hk hj]
  have := bt_two x j
  by_cases e : j = k
  · rw [if_pos e, if_pos e]
    rcases this with h | h <;> simp [h]
  · rw [if_neg e, if_neg e]
    rcases this with h | h <;> simp [h]

theorem ones_nat (k : Nat) : (255 : Int) / 2 ^ k = ((255 / 2 ^ k : Nat) : Int) := by
  rw [Int.natCast_ediv, Int.natCast_pow]
  rfl
/-- Ones behind the first k bits. -/
theorem bt_ones (k j : Nat) (hk : k < 8) (hj : j < 8) : bt (255 / 2 ^ k) j = if j < k then 0 else 1 := by
  have := (show ∀ k, k < 8 → ∀ j, j < 8 → 255 / 2 ^ k / 2 ^ (7 - j) % 2 = if j < k then 0 else 1 from by decide +kernel) k hk j hj
  have h1 : ∀ q : Nat, bt (q : Int) j = ((q / 2 ^ (7 - j) % 2 : Nat) : Int) := by intro q; unfold bt; norm_cast
  rw [ones_nat, h1, this]
  by_cases e : j < k
  · rw [if_pos e, if_pos e]
    rfl
  · rw [if_neg e, if_neg e]
    rfl

theorem ones_byte (k : Nat) : (0 : Int) ≤ 255 / 2 ^ k ∧ (255 : Int) / 2 ^ k ≤ 255 :=
  ⟨Int.ediv_nonneg (by omega) (Int.pow_nonneg (by omega)), Int.ediv_le_self _ (by omega)⟩

theorem bt_zero (j : Nat) : bt 0 j = 0 := by simp [bt]
theorem bt_full (j : Nat) (hj : j < 8) : bt 255 j = 1 := by
  have := bt_ones 0 j (by omega) hj
  simpa using this

/-- A byte filled up behind its first k bits. -/
theorem bt_fill (x r : Int) (hx : 0 ≤ x ∧ x ≤ 255) (hr : 0 ≤ r ∧ r ≤ 255) (k j : Nat) (hk : k < 8) (hj : j < 8) :
    bt (bits .or .u8 (bits .andNot .u8 x (255 / 2 ^ k)) (bits .and .u8 r (255 / 2 ^ k))) j = if j < k then bt x j else bt r j := by
  rw [bt_or _ _ (bits_byte _ _ _) (bits_byte _ _ _), bt_and _ _ hr (ones_byte k), bt_andNot _ _ hx (ones_byte k) j hj, bt_ones k j hk hj]
  have h1 := bt_two x j
  have h2 := bt_two r j
  by_cases e : j < k
  · simp [e]
  · simp only [e, if_false, if_true]
    rcases h2 with h | h <;> simp [h]

/-- A bit put by sums. -/
theorem bt_put (x b : Int) (hx : 0 ≤ x ∧ x ≤ 255) (hb : b = 0 ∨ b = 1) (k : Nat) (hk : k < 8) :
    (0 ≤ x + (b - bt x k) * 2 ^ (7 - k) ∧ x + (b - bt x k) * 2 ^ (7 - k) ≤ 255) ∧ ∀ j, j < 8 → bt (x + (b - bt x k) * 2 ^ (7 - k)) j = if j = k then b else bt x j := by
  obtain ⟨n, hn, rfl⟩ := nat_of x hx
  obtain ⟨c, hc, rfl⟩ : ∃ c : Nat, c < 2 ∧ b = c := ⟨b.toNat, by omega, by omega⟩
  have h1 : ∀ (q : Nat) j, bt (q : Int) j = ((q / 2 ^ (7 - j) % 2 : Nat) : Int) := by intro q j; unfold bt; norm_cast
  have h0 := (show ∀ n, n < 256 → ∀ c, c < 2 → ∀ k, k < 8 → n / 2 ^ (7 - k) % 2 * 2 ^ (7 - k) ≤ n ∧ n + c * 2 ^ (7 - k) - n / 2 ^ (7 - k) % 2 * 2 ^ (7 - k) ≤ 255 ∧ ∀ j, j < 8 → (n + c * 2 ^ (7 - k) - n / 2 ^ (7 - k) % 2 * 2 ^ (7 - k)) / 2 ^ (7 - j) % 2 = if j = k then c else n / 2 ^ (7 - j) % 2 from by decide +kernel) n hn c hc k hk
  obtain ⟨h2, h3, h4⟩ := h0
  have e : (n : Int) + ((c : Int) - bt (n : Int) k) * 2 ^ (7 - k) = ((n + c * 2 ^ (7 - k) - n / 2 ^ (7 - k) % 2 * 2 ^ (7 - k) : Nat) : Int) := by
    rw [h1, Int.sub_mul, Int.ofNat_sub (by omega)]
    push_cast
    omega
  rw [e]
  refine ⟨⟨by omega, by omega⟩, fun j hj => ?_⟩
  rw [h1, h4 j hj, h1]
  by_cases q : j = k
  · rw [if_pos q, if_pos q]
  · rw [if_neg q, if_neg q]

/-- A byte's next one: the last 0 turns, all behind it. -/
theorem bt_next (x : Int) (hx : 0 ≤ x ∧ x < 255) : ∃ k, k < 8 ∧ bt x k = 0 ∧ bt (x + 1) k = 1 ∧ (∀ j, j < k → bt (x + 1) j = bt x j) ∧ ∀ j, k < j → j < 8 → bt x j = 1 ∧ bt (x + 1) j = 0 := by
  obtain ⟨n, hn, rfl⟩ : ∃ n : Nat, n < 255 ∧ x = n := ⟨x.toNat, by omega, by omega⟩
  have h1 : ∀ (q : Nat) j, bt (q : Int) j = ((q / 2 ^ (7 - j) % 2 : Nat) : Int) := by intro q j; unfold bt; norm_cast
  obtain ⟨k, hk, a1, a2, a3, a4⟩ := (show ∀ n, n < 255 → ∃ k, k < 8 ∧ n / 2 ^ (7 - k) % 2 = 0 ∧ (n + 1) / 2 ^ (7 - k) % 2 = 1 ∧ (∀ j, j < k → (n + 1) / 2 ^ (7 - j) % 2 = n / 2 ^ (7 - j) % 2) ∧ ∀ j, j < 8 → k < j → n / 2 ^ (7 - j) % 2 = 1 ∧ (n + 1) / 2 ^ (7 - j) % 2 = 0 from by decide +kernel) n hn
  have e : (n : Int) + 1 = ((n + 1 : Nat) : Int) := by omega
  rw [e]
  refine ⟨k, hk, by rw [h1, a1]; rfl, by rw [h1, a2]; rfl, fun j hj => by rw [h1, h1, a3 j hj], fun j hj hj8 => ?_⟩
  have := a4 j hj8 hj
  exact ⟨by rw [h1, this.1]; rfl, by rw [h1, this.2]; rfl⟩

end Go.Proofs.YtjcklpdifanjlaaDoor

/- path.isBit, isDepth, Of, Bytes, Bit, Compare, as contracts. -/
namespace Go.Proofs.YtjcklpdifanjlaaDoor
set_option maxRecDepth 20000
open Go.RowKit

theorem zero_path : ∀ w, (zeroValue 24).run Tryd.prog w = .ok (.agg (B (List.replicate 32 0))) w := Tryd.zeroValue24
theorem size_path : (Tryd.prog.info? 24).map (·.size) = some 32 := by kernel_rfl
theorem u_path : Tryd.prog.underlying 24 = some (.array 32 5) := Tryd.underlying24

set_option maxHeartbeats 400000 in
theorem isBit_any (d : Int) (w : World) : Calls Tryd.prog 69 #[.int .i64 d] w fun e w' => e = .returned (.bool (decide (0 ≤ d ∧ d < 256))) ∧ w' = w := by
  by_cases h0 : 0 ≤ d
  · by_cases h1 : d < 256
    · have e : decide (0 ≤ d ∧ d < 256) = true := decide_eq_true ⟨h0, h1⟩
      rw [e]
      go_enter Tryd.func69, Tryd.ntmps69
      go_wp2
      go_ret
      exact ⟨rfl, rfl⟩
    · have e : decide (0 ≤ d ∧ d < 256) = false := decide_eq_false (fun h => h1 h.2)
      rw [e]
      go_enter Tryd.func69, Tryd.ntmps69
      go_wp2
      go_ret
      exact ⟨rfl, rfl⟩
  · have e : decide (0 ≤ d ∧ d < 256) = false := decide_eq_false (fun h => h0 h.1)
    rw [e]
    go_enter Tryd.func69, Tryd.ntmps69
    go_wp2
    go_ret
    exact ⟨rfl, rfl⟩

set_option maxHeartbeats 400000 in
theorem isDepth_any (d : Int) (w : World) : Calls Tryd.prog 95 #[.int .i64 d] w fun e w' => e = .returned (.bool (decide (0 ≤ d ∧ d ≤ 256))) ∧ w' = w := by
  by_cases h0 : 0 ≤ d
  · by_cases h1 : d ≤ 256
    · have e : decide (0 ≤ d ∧ d ≤ 256) = true := decide_eq_true ⟨h0, h1⟩
      rw [e]
      go_enter Tryd.func95, Tryd.ntmps95
      go_wp2
      go_ret
      exact ⟨rfl, rfl⟩
    · have e : decide (0 ≤ d ∧ d ≤ 256) = false := decide_eq_false (fun h => h1 h.2)
      rw [e]
      go_enter Tryd.func95, Tryd.ntmps95
      go_wp2
      go_ret
      exact ⟨rfl, rfl⟩
  · have e : decide (0 ≤ d ∧ d ≤ 256) = false := decide_eq_false (fun h => h0 h.1)
    rw [e]
    go_enter Tryd.func95, Tryd.ntmps95
    go_wp2
    go_ret
    exact ⟨rfl, rfl⟩

theorem and_one (y : Int) (hy : 0 ≤ y ∧ y ≤ 255) : bits .and .u8 y 1 = y % 2 := by
  obtain ⟨n, hn, rfl⟩ := nat_of y hy
  have := u8_and_nat n 1 hn (by omega)
  rw [Nat.and_one_is_mod] at this
  rw [show (1 : Int) = ((1 : Nat) : Int) from rfl, this]
  omega

theorem shr_byte (y : Int) (hy : 0 ≤ y ∧ y ≤ 255) (k : Nat) : 0 ≤ y / 2 ^ k ∧ y / 2 ^ k ≤ 255 :=
  ⟨Int.ediv_nonneg hy.1 (Int.pow_nonneg (by omega)), Int.le_trans (Int.ediv_le_self _ hy.1) hy.2⟩

theorem bit_word (xs : List Int) (hx : Key xs) (d : Nat) : wrap64 (bits .and .u8 (xs[d / 8]?.getD 0 / 2 ^ (7 - d % 8)) 1) = kb xs d := by
  have h := shr_byte _ (hx.byte (d / 8)) (7 - d % 8)
  have e : xs[d / 8]?.getD 0 = xs.getD (d / 8) 0 := by simp [List.getD]
  rw [e, and_one _ h, Go.IntWalk.wrap64_in _ (by omega)]
  rfl

set_option maxHeartbeats 1000000 in
theorem bit_in (xs : List Int) (d : Nat) (w : World) (hx : Key xs) (hd : d < 256) : Calls Tryd.prog 37 #[.agg (B xs), .int .i64 d] w fun e w' => e = .returned (.int .i64 (kb xs d)) ∧ Below w.heap.size w w' := by
  have HI : Hid (∀ w, Calls Tryd.prog 69 #[.int .i64 (d : Int)] w fun e w' => e = .returned (.bool true) ∧ w' = w) := by
    intro w
    have := isBit_any d w
    rw [decide_eq_true (by omega)] at this
    exact this
  have HW := hidden (bit_word xs hx d)
  have h2 : ((d / 8 : Nat) : Int) < 32 := by omega
  go_enter Tryd.func37, Tryd.ntmps37
  go_wp2_with (first | (go_at_call 69; refine (HI.out _).mono ?_; rintro e w2 ⟨rfl, rfl⟩) | (refine wpList_bx _ rfl _ _ rfl _ rfl ?_; intro w1 g1 hg1 hl1 B1 b1; have c1 := B1.bcell (d / 8) (by rw [hx.1]; omega)))
  go_ret
  exact ⟨by rw [HW.out]; rfl, b1⟩

set_option maxHeartbeats 1000000 in
theorem bit_out (v : Value) (cs : Array Value) (hv : v = .agg cs) (d : Int) (w : World) (hd : ¬ (0 ≤ d ∧ d < 256)) : Calls Tryd.prog 37 #[v, .int .i64 d] w fun e w' => e = .returned (.int .i64 (-1)) ∧ Below w.heap.size w w' := by
  subst hv
  have HI : Hid (∀ w, Calls Tryd.prog 69 #[.int .i64 d] w fun e w' => e = .returned (.bool false) ∧ w' = w) := by
    intro w
    have := isBit_any d w
    rw [decide_eq_false hd] at this
    exact this
  clear hd
  go_enter Tryd.func37, Tryd.ntmps37
  go_wp2_with (first | (go_at_call 69; refine (HI.out _).mono ?_; rintro e w2 ⟨rfl, rfl⟩) | (refine wpList_bx _ rfl _ _ rfl _ rfl ?_; intro w1 g1 hg1 hl1 B1 b1))
  go_ret
  exact ⟨rfl, b1⟩

theorem Blk.key_reads {w : World} {g : Nat} {xs : List Int} (h : Blk w g 24 (B xs)) (hx : Key xs) : Reads w (.slice (some ⟨g, 0, none⟩) 32 32) xs := by
  have e : (.slice (some ⟨g, 0, none⟩) 32 32 : Value) = .slice (some ⟨g, 0, none⟩) xs.length 32 := by rw [hx.1]
  rw [e]
  refine ⟨_, _, rfl, by rw [hx.1]; omega, fun h => by simp at h, hx.2, fun _ => ⟨g, 0, rfl, fun i hi => ?_⟩⟩
  rw [Nat.zero_add]
  exact h.bcell i hi

set_option maxHeartbeats 1000000 in
theorem pcompare_any (xs ys : List Int) (w : World) (hx : Key xs) (hy : Key ys) : Calls Tryd.prog 79 #[.agg (B xs), .agg (B ys)] w fun e w' => e = .returned (.int .i64 (cmp xs ys)) ∧ Below w.heap.size w w' := by
  go_enter Tryd.func79, Tryd.ntmps79
  go_wp2_with (first | (have hz := hl1; clear hz; refine wpList_bx _ rfl _ _ rfl _ rfl ?_; intro w2 g2 hg2 hl2 B2 b2) | (refine wpList_bx _ rfl _ _ rfl _ rfl ?_; intro w1 g1 hg1 hl1 B1 b1))
  have c2 := grow_trans b1 b2
  have HC : Hid (∀ w', Below w2.heap.size w2 w' → Calls Tryd.prog 94 #[.slice (some ⟨g1, 0, none⟩) 32 32, .slice (some ⟨g2, 0, none⟩) 32 32] w' fun e w'' => e = .returned (.int .i64 (cmp xs ys)) ∧ w'' = w') :=
    fun w' hw' => compare_any _ _ xs ys w' (((B1.grow b2).grow hw').key_reads hx) ((B2.grow hw').key_reads hy)
  clear hx hy
  go_quiet ((go_at_call 94; exact Calls.quiet_of_same (HC.out _ (below_drewN (Below.refl _ _) _))))
  go_wp2
  go_ret
  exact ⟨rfl, below_drewN c2 _⟩

/-- What a call leaves that tells a key, and an error's number. -/
def KeyPost (p : List Int → Prop) (n : Int) (w : World) (e : Ending) (w' : World) : Prop := ∃ ys, p ys ∧ e = .returned (.tuple #[.agg (B ys), .int .i64 n]) ∧ Below w.heap.size w w'

theorem key_zero : Key (List.replicate 32 0) := ⟨by simp, fun z hz => by have := List.eq_of_mem_replicate hz; omega⟩

end Go.Proofs.YtjcklpdifanjlaaDoor
