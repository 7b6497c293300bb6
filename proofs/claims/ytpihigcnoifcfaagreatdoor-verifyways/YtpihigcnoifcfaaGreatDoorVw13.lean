/- Nodes and their texts, with no call of the program: the empty digest; a text read is the node, a node told is the text. -/
import Derived.Test.YtpihigcnoifcfaaGreatDoorVw12
import Derived.Test.YtpihigcnoifcfaaGreatDoorVw02
import Derived.Test.YtpihigcnoifcfaaGreatDoorVw04
import Derived.Laws.Cover3
namespace Go.Proofs.YtpihigcnoifcfaaGreatDoor
set_option maxRecDepth 20000
open Go.RowKit

theorem em_dig : dig [0] = [110, 52, 11, 156, 255, 179, 122, 152, 156, 165, 68, 230, 187, 120, 10, 44, 120, 144, 29, 63, 179, 55, 56, 118, 133, 17, 163, 6, 23, 175, 160, 29] := by kernel_rfl
theorem em_ne : dig [0] ≠ z32 := by
  rw [em_dig]
  decide

theorem ok_cases {k : Int} {a b c d : List Int} (h : okN k a b c d = true) : (k = 0 ∧ a = z32 ∧ b = z32 ∧ c = z32 ∧ d = z32) ∨ (k = 1 ∧ c = z32 ∧ d = z32) ∨ (k = 2 ∧ a = z32 ∧ b = z32) := by
  simpa [okN] using h

theorem dec_enc {k : Int} {a b c d : List Int} (h : Nd k a b c d) (ho : okN k a b c d = true) : dcN (txN k a b c d) = nd k a b c d ∧ dcE (txN k a b c d) = 0 := by
  have hcat : ∀ (x : Int) (u v : List Int), u.length = 32 → v.length = 32 → (x :: (u ++ v)).length = 65 ∧ (x :: (u ++ v)).getD 0 0 = x ∧ dcA (x :: (u ++ v)) = u ∧ dcB (x :: (u ++ v)) = v := by
    intro x u v hu hv
    refine ⟨by simp [hu, hv], rfl, ?_, ?_⟩
    · simp [dcA, ← hu]
    · have : (x :: (u ++ v)).drop 33 = (u ++ v).drop 32 := rfl
      rw [dcB, this, ← hu, List.drop_left]
  rcases ok_cases ho with ⟨rfl, rfl, rfl, rfl, rfl⟩ | ⟨rfl, rfl, rfl⟩ | ⟨rfl, rfl, rfl⟩
  · have e : txN 0 z32 z32 z32 z32 = [0] := by rw [txN, if_pos ho]; rfl
    rw [e]
    exact ⟨rfl, rfl⟩
  · have e : txN 1 a b z32 z32 = 1 :: (a ++ b) := by rw [txN, if_pos ho]; rfl
    obtain ⟨h1, h2, h3, h4⟩ := hcat 1 a b h.la h.lb
    rw [e, dcN, dcE, if_pos ⟨h1, h2⟩, if_pos ⟨h1, h2⟩, h3, h4]
    exact ⟨rfl, rfl⟩
  · have e : txN 2 z32 z32 c d = 2 :: (c ++ d) := by rw [txN, if_pos ho]; rfl
    obtain ⟨h1, h2, h3, h4⟩ := hcat 2 c d h.lc h.ld
    have hn : ¬ ((2 :: (c ++ d)).length = 65 ∧ (2 :: (c ++ d)).getD 0 0 = 1) := fun q => by
      have := q.2
      rw [h2] at this
      omega
    rw [e]
    constructor
    · rw [dcN, if_neg hn, if_pos ⟨h1, h2⟩, h3, h4]
    · rw [dcE, if_neg hn, if_pos ⟨h1, h2⟩]

theorem txN_short {k : Int} {a b c d : List Int} (h : Nd k a b c d) : (txN k a b c d).length ≤ 65 := by
  unfold txN
  split
  · split
    · simp [h.la, h.lb]
    · split
      · simp [h.lc, h.ld]
      · simp
  · simp

theorem enc_dec {zs : List Int} (hb : Bytes zs) (h : dcE zs = 0) : ∃ k a b c d, dcN zs = nd k a b c d ∧ Nd k a b c d ∧ okN k a b c d = true ∧ txN k a b c d = zs := by
  have hcut : ∀ x, zs.length = 65 → zs.getD 0 0 = x → zs = x :: (dcA zs ++ dcB zs) := by
    intro x hl hx
    match zs, hl with
    | y :: r, hl =>
      have : y = x := hx
      subst this
      have e1 : dcB (y :: r) = r.drop 32 := rfl
      have e2 : dcA (y :: r) = r.take 32 := rfl
      rw [e1, e2, List.take_append_drop]
  by_cases h1 : zs.length = 65 ∧ zs.getD 0 0 = 1
  · have ho : okN 1 (dcA zs) (dcB zs) z32 z32 = true := by simp [okN]
    refine ⟨1, dcA zs, dcB zs, z32, z32, by rw [dcN, if_pos h1], ⟨by omega, by omega, dcA_length zs h1.1, dcB_length zs h1.1, rfl, rfl, dcA_bytes zs hb, dcB_bytes zs hb, z32_bytes, z32_bytes⟩, ho, ?_⟩
    rw [txN, if_pos ho, if_pos rfl]
    exact (hcut 1 h1.1 h1.2).symm
  · by_cases h2 : zs.length = 65 ∧ zs.getD 0 0 = 2
    · have ho : okN 2 z32 z32 (dcA zs) (dcB zs) = true := by simp [okN]
      refine ⟨2, z32, z32, dcA zs, dcB zs, by rw [dcN, if_neg h1, if_pos h2], ⟨by omega, by omega, rfl, rfl, dcA_length zs h2.1, dcB_length zs h2.1, z32_bytes, z32_bytes, dcA_bytes zs hb, dcB_bytes zs hb⟩, ho, ?_⟩
      rw [txN, if_pos ho, if_neg (by omega), if_pos rfl]
      exact (hcut 2 h2.1 h2.2).symm
    · by_cases h3 : zs.length = 1 ∧ zs.getD 0 0 = 0
      · have ho : okN 0 z32 z32 z32 z32 = true := by simp [okN]
        refine ⟨0, z32, z32, z32, z32, by rw [dcN, if_neg h1, if_neg h2], z_nd, ho, ?_⟩
        rw [txN, if_pos ho, if_neg (by omega), if_neg (by omega)]
        match zs, h3 with
        | [y], ⟨_, hy⟩ =>
          have : y = 0 := hy
          rw [this]
      · rw [dcE, if_neg h1, if_neg h2, if_neg h3] at h
        omega

theorem dcE_cases (zs : List Int) : dcE zs = 0 ∨ dcE zs = 10 := by
  unfold dcE
  repeat' split
  all_goals simp

end Go.Proofs.YtpihigcnoifcfaaGreatDoor

/- path.isBit, isDepth, Of, Bytes, Bit, Compare, as contracts. -/
namespace Go.Proofs.YtpihigcnoifcfaaGreatDoor
set_option maxRecDepth 20000
open Go.RowKit

theorem zero_path : ∀ w, (zeroValue 24).run Tryz.prog w = .ok (.agg (B (List.replicate 32 0))) w := Tryz.zeroValue24
theorem size_path : (Tryz.prog.info? 24).map (·.size) = some 32 := by kernel_rfl
theorem u_path : Tryz.prog.underlying 24 = some (.array 32 5) := Tryz.underlying24

set_option maxHeartbeats 400000 in
theorem isBit_any (d : Int) (w : World) : Calls Tryz.prog 37 #[.int .i64 d] w fun e w' => e = .returned (.bool (decide (0 ≤ d ∧ d < 256))) ∧ w' = w := by
  by_cases h0 : 0 ≤ d
  · by_cases h1 : d < 256
    · have e : decide (0 ≤ d ∧ d < 256) = true := decide_eq_true ⟨h0, h1⟩
      rw [e]
      go_enter Tryz.func37, Tryz.ntmps37
      go_wp2
      go_ret
      exact ⟨rfl, rfl⟩
    · have e : decide (0 ≤ d ∧ d < 256) = false := decide_eq_false (fun h => h1 h.2)
      rw [e]
      go_enter Tryz.func37, Tryz.ntmps37
      go_wp2
      go_ret
      exact ⟨rfl, rfl⟩
  · have e : decide (0 ≤ d ∧ d < 256) = false := decide_eq_false (fun h => h0 h.1)
    rw [e]
    go_enter Tryz.func37, Tryz.ntmps37
    go_wp2
    go_ret
    exact ⟨rfl, rfl⟩

set_option maxHeartbeats 400000 in
theorem isDepth_any (d : Int) (w : World) : Calls Tryz.prog 69 #[.int .i64 d] w fun e w' => e = .returned (.bool (decide (0 ≤ d ∧ d ≤ 256))) ∧ w' = w := by
  by_cases h0 : 0 ≤ d
  · by_cases h1 : d ≤ 256
    · have e : decide (0 ≤ d ∧ d ≤ 256) = true := decide_eq_true ⟨h0, h1⟩
      rw [e]
      go_enter Tryz.func69, Tryz.ntmps69
      go_wp2
      go_ret
      exact ⟨rfl, rfl⟩
    · have e : decide (0 ≤ d ∧ d ≤ 256) = false := decide_eq_false (fun h => h1 h.2)
      rw [e]
      go_enter Tryz.func69, Tryz.ntmps69
      go_wp2
      go_ret
      exact ⟨rfl, rfl⟩
  · have e : decide (0 ≤ d ∧ d ≤ 256) = false := decide_eq_false (fun h => h0 h.1)
    rw [e]
    go_enter Tryz.func69, Tryz.ntmps69
    go_wp2
    go_ret
    exact ⟨rfl, rfl⟩

theorem and_one (y : Int) (hy : 0 ≤ y ∧ y ≤ 255) : bits .and .u8 y 1 = y % 2 := by
  obtain ⟨n, hn, rfl⟩ := nat_of y hy
  have := u8_and_nat n 1 hn (by omega)
  rw [Nat.and_one_is_mod] at this
  rw [show (1 : Int) = ((1 : Nat) : Int) from rfl, this]
  omega

theorem shr_byte (y : Int) (hy : 0 ≤ y ∧ y ≤ 255) (k : Nat) : 0 ≤ y / 2 ^ k ∧ y / 2 ^ k ≤ 255 :=
  ⟨Int.ediv_nonneg hy.1 (Int.pow_nonneg (by omega)), Int.le_trans (Int.ediv_le_self _ hy.1) hy.2⟩

theorem bit_word (xs : List Int) (hx : Key xs) (d : Nat) : wrap64 (bits .and .u8 (xs[d / 8]?.getD 0 / 2 ^ (7 - d % 8)) 1) = kb xs d := by
  have h := shr_byte _ (hx.byte (d / 8)) (7 - d % 8)
  have e : xs[d / 8]?.getD 0 = xs.getD (d / 8) 0 := by simp [List.getD]
  rw [e, and_one _ h, Go.IntWalk.wrap64_in _ (by omega)]
  rfl

set_option maxHeartbeats 1000000 in
theorem bit_in (xs : List Int) (d : Nat) (w : World) (hx : Key xs) (hd : d < 256) : Calls Tryz.prog 16 #[.agg (B xs), .int .i64 d] w fun e w' => e = .returned (.int .i64 (kb xs d)) ∧ Below w.heap.size w w' := by
  have HI : Hid (∀ w, Calls Tryz.prog 37 #[.int .i64 (d : Int)] w fun e w' => e = .returned (.bool true) ∧ w' = w) := by
    intro w
    have := isBit_any d w
    rw [decide_eq_true (by omega)] at this
    exact this
  have HW := hidden (bit_word xs hx d)
  have h2 : ((d / 8 : Nat) : Int) < 32 := by omega
  go_enter Tryz.func16, Tryz.ntmps16
  go_wp2_with (first | (go_at_call 37; refine (HI.out _).mono ?_; rintro e w2 ⟨rfl, rfl⟩) | (refine wpList_bx _ rfl _ _ rfl _ rfl ?_; intro w1 g1 hg1 hl1 B1 b1; have c1 := B1.bcell (d / 8) (by rw [hx.1]; omega)))
  go_ret
  exact ⟨by rw [HW.out]; rfl, b1⟩

set_option maxHeartbeats 1000000 in
theorem bit_out (v : Value) (cs : Array Value) (hv : v = .agg cs) (d : Int) (w : World) (hd : ¬ (0 ≤ d ∧ d < 256)) : Calls Tryz.prog 16 #[v, .int .i64 d] w fun e w' => e = .returned (.int .i64 (-1)) ∧ Below w.heap.size w w' := by
  subst hv
  have HI : Hid (∀ w, Calls Tryz.prog 37 #[.int .i64 d] w fun e w' => e = .returned (.bool false) ∧ w' = w) := by
    intro w
    have := isBit_any d w
    rw [decide_eq_false hd] at this
    exact this
  clear hd
  go_enter Tryz.func16, Tryz.ntmps16
  go_wp2_with (first | (go_at_call 37; refine (HI.out _).mono ?_; rintro e w2 ⟨rfl, rfl⟩) | (refine wpList_bx _ rfl _ _ rfl _ rfl ?_; intro w1 g1 hg1 hl1 B1 b1))
  go_ret
  exact ⟨rfl, b1⟩

theorem Blk.key_reads {w : World} {g : Nat} {xs : List Int} (h : Blk w g 24 (B xs)) (hx : Key xs) : Reads w (.slice (some ⟨g, 0, none⟩) 32 32) xs := by
  have e : (.slice (some ⟨g, 0, none⟩) 32 32 : Value) = .slice (some ⟨g, 0, none⟩) xs.length 32 := by rw [hx.1]
  rw [e]
  refine ⟨_, _, rfl, by rw [hx.1]; omega, fun h => by simp at h, hx.2, fun _ => ⟨g, 0, rfl, fun i hi => ?_⟩⟩
  rw [Nat.zero_add]
  exact h.bcell i hi

set_option maxHeartbeats 1000000 in
theorem pcompare_any (xs ys : List Int) (w : World) (hx : Key xs) (hy : Key ys) : Calls Tryz.prog 34 #[.agg (B xs), .agg (B ys)] w fun e w' => e = .returned (.int .i64 (cmp xs ys)) ∧ Below w.heap.size w w' := by
  go_enter Tryz.func34, Tryz.ntmps34
  go_wp2_with (first | (have hz := hl1; clear hz; refine wpList_bx _ rfl _ _ rfl _ rfl ?_; intro w2 g2 hg2 hl2 B2 b2) | (refine wpList_bx _ rfl _ _ rfl _ rfl ?_; intro w1 g1 hg1 hl1 B1 b1))
  have c2 := grow_trans b1 b2
  have HC : Hid (∀ w', Below w2.heap.size w2 w' → Calls Tryz.prog 62 #[.slice (some ⟨g1, 0, none⟩) 32 32, .slice (some ⟨g2, 0, none⟩) 32 32] w' fun e w'' => e = .returned (.int .i64 (cmp xs ys)) ∧ w'' = w') :=
    fun w' hw' => compare_any _ _ xs ys w' (((B1.grow b2).grow hw').key_reads hx) ((B2.grow hw').key_reads hy)
  clear hx hy
  go_quiet ((go_at_call 62; exact Calls.quiet_of_same (HC.out _ (below_drewN (Below.refl _ _) _))))
  go_wp2
  go_ret
  exact ⟨rfl, below_drewN c2 _⟩

/-- What a call leaves that tells a key, and an error's number. -/
def KeyPost (p : List Int → Prop) (n : Int) (w : World) (e : Ending) (w' : World) : Prop := ∃ ys, p ys ∧ e = .returned (.tuple #[.agg (B ys), .int .i64 n]) ∧ Below w.heap.size w w'

theorem key_zero : Key (List.replicate 32 0) := ⟨by simp, fun z hz => by have := List.eq_of_mem_replicate hz; omega⟩

end Go.Proofs.YtpihigcnoifcfaaGreatDoor

/- math/bits' LeadingZeros8; path.Common and Under, as contracts. -/
namespace Go.Proofs.YtpihigcnoifcfaaGreatDoor
set_option maxRecDepth 20000
open Go.RowKit

/-- How many bits a byte has, from its first 1 on. -/
def len8 (n : Nat) : Nat := if n = 0 then 0 else Nat.log2 n + 1

/-- A table's byte, by its place. -/
theorem wpList_ix {ops : Array Oper} {rest : List Oper} {op : Oper} {a : Act} {Q : Exit → Act → World → Prop} (w : World) (hgd : op.guard = none) (x y : Operand) (ty : TypeId) (ho : op.op = .index ty x y) (hu : Tryz.prog.underlying ty = some .string)
    (s : ByteArray) (n : Nat) (hn : n < 256) (hx : a.eval x = .string s) (hy : a.eval y = .int .u8 n) (h : (List.range 256).all (fun n => (s[n]?).map (·.toNat) == some (len8 n)) = true) (hk : wpList Tryz.prog ops Q rest (a.put op.dst (.int .u8 (len8 n))) w) : wpList Tryz.prog ops Q (op :: rest) a w := by
  refine wpList_plain hgd fun K hK => ?_
  have h' : (s[n]?).map (·.toNat) = some (len8 n) := by
    have := List.all_eq_true.1 h n (by simpa using hn)
    simpa using this
  cases hb : s[n]? with
  | none => rw [hb] at h'; cases h'
  | some c =>
    rw [hb] at h'
    injection h' with h'
    unfold Oper.wp execOp
    simp only [ho, hx, hy, Instr.index, asIntOf, Sem.run_bind, Sem.run_pure, Result.andThen_ok, run_underlying hu, Int.natCast_nonneg, if_true, Int.toNat_natCast, hb, h']
    exact hK _ _ hk

set_option maxHeartbeats 1000000 in
set_option maxRecDepth 100000 in
theorem len8_any (n : Nat) (w : World) (h1 : n < 256) : Calls Tryz.prog 101 #[.int .u8 n] w fun e w' => e = .returned (.int .i64 (len8 n)) ∧ w' = w := by
  have h2 : len8 n ≤ 8 := (show ∀ n, n < 256 → len8 n ≤ 8 from by decide +kernel) n h1
  have HN := hidden h1
  go_enter Tryz.func101, Tryz.ntmps101
  go_wp2_with (refine wpList_ix _ rfl _ _ _ rfl Tryz.underlying9 _ n HN.out rfl rfl (by kernel_rfl) ?_)
  go_ret
  exact ⟨rfl, rfl⟩

set_option maxHeartbeats 1000000 in
theorem lead_any (n : Nat) (w : World) (h1 : n < 256) : Calls Tryz.prog 92 #[.int .u8 n] w fun e w' => e = .returned (.int .i64 ((8 - len8 n : Nat) : Int)) ∧ w' = w := by
  have h2 : len8 n ≤ 8 := (show ∀ n, n < 256 → len8 n ≤ 8 from by decide +kernel) n h1
  have HN := hidden (len8_any n w h1)
  obtain ⟨l, hl⟩ : ∃ l, l = 8 - len8 n := ⟨_, rfl⟩
  rw [← hl]
  have h3 : (8 : Int) - (len8 n : Int) = (l : Int) := by omega
  have h4 : l ≤ 8 := by omega
  have h5 : wrap64 (l : Int) = (l : Int) := Go.IntWalk.wrap64_in _ (by omega)
  clear hl
  go_enter Tryz.func92, Tryz.ntmps92
  go_wp2_with (go_at_call 101; refine HN.out.mono ?_; rintro e w' ⟨rfl, rfl⟩)
  go_ret
  exact ⟨by rw [← h3]; rfl, rfl⟩

/-- Two unlike bytes: how many noughts lead in their xor is the place of the first unlike bit. -/
theorem xor_lead (x y : Int) (hx : 0 ≤ x ∧ x ≤ 255) (hy : 0 ≤ y ∧ y ≤ 255) (h : x ≠ y) : ∃ m : Nat, m < 256 ∧ bits .xor .u8 x y = m ∧ 8 - len8 m < 8 ∧ (∀ j, j < 8 - len8 m → bt x j = bt y j) ∧ bt x (8 - len8 m) ≠ bt y (8 - len8 m) := by
  obtain ⟨m, hm, e⟩ := nat_of _ (bits_byte .xor x y)
  have hb := bt_xor x y hx hy
  rw [e] at hb
  have h1 : ∀ (q : Nat) j, bt (q : Int) j = ((q / 2 ^ (7 - j) % 2 : Nat) : Int) := by intro q j; unfold bt; norm_cast
  have h0 : m ≠ 0 := by
    rintro rfl
    refine h (byte_ext x y hx hy fun k _ => ?_)
    have := hb k
    rw [show ((0 : Nat) : Int) = 0 from rfl, bt_zero] at this
    by_cases q : bt x k = bt y k
    · exact q
    · rw [if_neg q] at this; omega
  obtain ⟨a1, a2, a3⟩ := (show ∀ m, m < 256 → m ≠ 0 → 8 - len8 m < 8 ∧ (∀ j, j < 8 - len8 m → m / 2 ^ (7 - j) % 2 = 0) ∧ m / 2 ^ (7 - (8 - len8 m)) % 2 = 1 from by decide +kernel) m hm h0
  refine ⟨m, hm, e, a1, fun j hj => ?_, fun q => ?_⟩
  · have := hb j
    rw [h1, a2 j hj] at this
    by_cases q : bt x j = bt y j
    · exact q
    · rw [if_neg q] at this; omega
  · have := hb (8 - len8 m)
    rw [h1, a3, if_pos q] at this
    omega

/-- The first unlike byte, and the first unlike bit in it: how many first bits are the same. -/
theorem common_of {xs ys : List Int} (i l : Nat) (hi : i < 32) (hl : l < 8) (he : ∀ j, j < i → xs.getD j 0 = ys.getD j 0) (h1 : ∀ j, j < l → bt (xs.getD i 0) j = bt (ys.getD i 0) j) (h2 : bt (xs.getD i 0) l ≠ bt (ys.getD i 0) l) : IsCommon xs ys (8 * i + l) := by
  refine ⟨by omega, fun j hj => ?_, fun _ => ?_⟩
  · unfold kb
    rcases Nat.lt_or_ge (j / 8) i with e | e
    · rw [he _ e]
    · have e2 : j / 8 = i := by omega
      rw [e2]
      exact h1 _ (by omega)
  · unfold kb
    rw [show (8 * i + l) / 8 = i by omega, show (8 * i + l) % 8 = l by omega]
    exact h2

set_option maxHeartbeats 2000000 in
set_option maxRecDepth 10000 in
theorem common_any (xs ys : List Int) (w : World) (hx : Key xs) (hy : Key ys) : Calls Tryz.prog 70 #[.agg (B xs), .agg (B ys)] w fun e w' => ∃ c : Nat, IsCommon xs ys c ∧ e = .returned (.int .i64 c) ∧ Below w.heap.size w w' := by
  have HX := hidden hx
  have HY := hidden hy
  have hiX : (Tryz.prog.info? 24).map (·.size) = some (B xs).size := by rw [B_size, hx.1]; exact size_path
  have hiY : (Tryz.prog.info? 24).map (·.size) = some (B ys).size := by rw [B_size, hy.1]; exact size_path
  have HE := fun w => path_eq xs ys hx.1 hy.1 w
  clear hx hy
  by_cases hq : xs = ys
  · have hd : decide (xs = ys) = true := decide_eq_true hq
    rw [hd] at HE
    have HQ := hidden hq
    clear hq hd
    go_enter Tryz.func70, Tryz.ntmps70
    go_wp2_with (first | (have hz := hl1; clear hz; refine wpList_bx _ rfl _ _ rfl _ rfl ?_; intro w2 g2 hg2 hl2 B2 b2; have B1' := B1.grow b2) | (refine wpList_bx _ rfl _ _ rfl _ rfl ?_; intro w1 g1 hg1 hl1 B1 b1) | (refine wpList_ld _ rfl _ _ rfl g1 _ rfl B1' _ _ u_path hiX ?_) | (refine wpList_ld _ rfl _ _ rfl g2 _ rfl B2 _ _ u_path hiY ?_))
    go_ret
    exact ⟨256, by rw [HQ.out]; exact IsCommon.self _, rfl, grow_trans b1 b2⟩
  · have hd : decide (xs = ys) = false := decide_eq_false hq
    rw [hd] at HE
    have HQ := hidden hq
    clear hq hd
    go_enter Tryz.func70, Tryz.ntmps70
    go_wp2_with (first | (have hz := hl1; clear hz; refine wpList_bx _ rfl _ _ rfl _ rfl ?_; intro w2 g2 hg2 hl2 B2 b2; have B1' := B1.grow b2) | (refine wpList_bx _ rfl _ _ rfl _ rfl ?_; intro w1 g1 hg1 hl1 B1 b1) | (refine wpList_ld _ rfl _ _ rfl g1 _ rfl B1' _ _ u_path hiX ?_) | (refine wpList_ld _ rfl _ _ rfl g2 _ rfl B2 _ _ u_path hiY ?_))
    have c2 := grow_trans b1 b2
    have C1 : Hid (∀ w', Below w2.heap.size w2 w' → ∀ i, i < 32 → w'.cell? ⟨g1, i, none⟩ = some (.int .u8 (xs.getD i 0))) := fun w' hw' i hi => (B1'.grow hw').bcell i (by rw [HX.out.1]; exact hi)
    have C2 : Hid (∀ w', Below w2.heap.size w2 w' → ∀ i, i < 32 → w'.cell? ⟨g2, i, none⟩ = some (.int .u8 (ys.getD i 0))) := fun w' hw' i hi => (B2.grow hw').bcell i (by rw [HY.out.1]; exact hi)
    clear B1 B1' B2 b1 b2 hg1 hg2 hl1 hl2 hiX hiY HE
    go_loopw [5] (fun i wr => ∃ k : Nat, k < 32 ∧ i = .int .i64 k ∧ Hid (∀ j, j < k → xs.getD j 0 = ys.getD j 0) ∧ Below w2.heap.size w2 wr) (fun i _ => 32 - (intOf i).toNat)
    case atStart => exact ⟨0, by omega, rfl, fun j hj => by omega, Below.refl _ _⟩
    case round =>
      obtain ⟨k, hk, rfl, hj, hb⟩ := hrel
      have q1 := C1.out _ hb k hk
      have q2 := C2.out _ hb k hk
      have hk' : (k : Int) < 32 := by omega
      by_cases hxy : xs.getD k 0 = ys.getD k 0
      · have HJ : Hid (∀ j, j < k + 1 → xs.getD j 0 = ys.getD j 0) := by
          intro j h
          rcases Nat.lt_or_ge j k with e | e
          · exact hj.out j e
          · have : j = k := by omega
            subst this
            exact hxy
        have hk2 : k + 1 < 32 := by
          rcases Nat.lt_or_ge (k + 1) 32 with h | h
          · exact h
          · refine absurd ?_ HQ.out
            have h1 := HX.out.1
            have h2 := HY.out.1
            apply List.ext_getElem (by omega)
            intro j a1 a2
            have := HJ.out j (by omega)
            simpa [List.getD, a1, a2] using this
        rw [hxy] at q1
        clear hj hxy
        generalize ys.getD k 0 = z at *
        go_wp2_with fail
        go_quiet (fail)
        go_wp2
        exact ⟨⟨k + 1, hk2, by go_num, HJ, below_drewN hb _⟩, by simp [intOf]; omega⟩
      · obtain ⟨m, hm, e1, e2, e3, e4⟩ := xor_lead _ _ (HX.out.byte k) (HY.out.byte k) hxy
        have HC := hidden (common_of k (8 - len8 m) hk e2 hj.out e3 e4)
        have HL : Hid (∀ w', Calls Tryz.prog 92 #[.int .u8 m] w' fun e w'' => e = .returned (.int .i64 ((8 - len8 m : Nat) : Int)) ∧ w'' = w') := fun w' => lead_any m w' hm
        clear e3 e4 hj
        generalize 8 - len8 m = l at *
        generalize xs.getD k 0 = x at *
        generalize ys.getD k 0 = y at *
        go_wp2_with fail
        go_quiet (fail)
        go_wp2
        have hb2 := below_drewN hb nq
        have q1' : (wr.drewN nq).cell? ⟨g1, k, none⟩ = some (.int .u8 x) := q1
        have q2' : (wr.drewN nq).cell? ⟨g2, k, none⟩ = some (.int .u8 y) := q2
        generalize wr.drewN nq = wz at *
        clear q1 q2
        go_quiet ((go_at_call 92; exact Calls.quiet_of_same (HL.out _)))
        go_wp2
        go_ret
        exact ⟨8 * k + l, HC.out, by go_num, below_drewN (grow_trans c2 hb2) _⟩
end Go.Proofs.YtpihigcnoifcfaaGreatDoor
