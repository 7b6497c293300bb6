/- Plain facts on numbers, lists of bytes and worlds, with no word of the program: bits of an int, bytes joined to numbers, what a world keeps. -/
import Derived.WalkKit
import Derived.WalkSpells
import Derived.WalkLawsBesides
namespace Go.Proofs.YtjcklpdifanjlaaDoor
set_option maxRecDepth 20000
open Go.RowKit

/-- Worlds that only grow: nothing that was there turns. -/
theorem grow_trans {a b c : World} (h : Below a.heap.size a b) (k : Below b.heap.size b c) : Below a.heap.size a c := h.trans (k.mono h.size)
theorem grow_alloc (w : World) (o : Obj) : Below w.heap.size w (w.alloc o) := (Below.refl _ _).alloc (Nat.le_refl _) o
theorem grow_alloc2 (w : World) (o p : Obj) : Below w.heap.size w ((w.alloc o).alloc p) := grow_trans (grow_alloc w o) (grow_alloc _ p)

theorem grown_below {w w' : World} {row : Option Nat} (h : w.grownBy w' row) (hr : ∀ k, row = some k → w.heap.size ≤ k) : Below w.heap.size w w' :=
  (Below.refl _ _).grown h (Nat.le_refl _) hr

theorem below_grown {w w' : World} (h : Below w.heap.size w w') (row : Option Nat) : w.grownBy w' row := ⟨h.os, h.tape, h.output, h.size, fun k hk _ => h.block k hk⟩

theorem grown_trans {a b c : World} {row : Option Nat} (h : a.grownBy b row) (k : b.grownBy c row) : a.grownBy c row :=
  ⟨k.os.trans h.os, k.tape.trans h.tape, k.output.trans h.output, Nat.le_trans h.size k.size, fun i hi hr => (k.block i (Nat.lt_of_lt_of_le hi h.size) hr).trans (h.block i hi hr)⟩

theorem grown_setCell (w : World) (b o : Nat) (v : Value) : w.grownBy (w.setCell ⟨b, o, none⟩ v) (some b) :=
  ⟨rfl, rfl, rfl, by simp, fun k _ hr => heap_setCell_other w _ k v (fun e => hr (by simp [e]))⟩

theorem undrew {w w1 : World} (h : Below w.drew.heap.size w.drew w1) : Below w.heap.size w w1 := ⟨h.os, h.tape, h.output, h.size, h.block⟩

theorem below_row {w0 w w' : World} {g : Nat} (hb : Below w0.heap.size w0 w) (hg : w.grownBy w' (some g)) (h : w0.heap.size ≤ g) : Below w0.heap.size w0 w' :=
  hb.grown hg hb.size (fun k hk => by injection hk with hk; omega)

theorem hidden {p : Prop} (h : p) : Hid p := h

theorem i64_or_nat (a b : Nat) (ha : a < 9223372036854775808) (hb : b < 9223372036854775808) : bits .or .i64 (a : Int) (b : Int) = ((a ||| b : Nat) : Int) := by
  have hx : a ||| b < 2 ^ 63 := Nat.or_lt_two_pow (by omega) (by omega)
  show IntKind.i64.wrap ((BitVec.ofInt 64 (a : Int) ||| BitVec.ofInt 64 (b : Int)).toNat : Int) = _
  rw [BitVec.toNat_or, ofInt_u64 a (by omega), ofInt_u64 b (by omega), IntKind.wrap_i64]
  omega

theorem i64_join (i : Nat) (a b : Int) (h1 : 0 ≤ a) (h2 : a < 9223372036854775808) (h3 : 0 ≤ b) (h4 : b < 2 ^ i) (h5 : b < 9223372036854775808) (hm : a.toNat % 2 ^ i = 0) : bits .or .i64 a b = a + b := by
  obtain ⟨A, rfl⟩ := Int.eq_ofNat_of_zero_le h1
  obtain ⟨B, rfl⟩ := Int.eq_ofNat_of_zero_le h3
  rw [i64_or_nat A B (by omega) (by omega), nat_join i A B (by simpa using hm) (by exact_mod_cast h4)]
  simp

/-- n << 8 | b, where nothing is lost. -/
theorem or_byte (a z : Int) (h1 : 0 ≤ a) (h2 : a < 4294967296) (h3 : 0 ≤ z) (h4 : z ≤ 255) : bits .or .i64 (wrap64 (a * 256)) (wrap64 z) = 256 * a + z := by
  rw [Go.IntWalk.wrap64_in _ (by omega), Go.IntWalk.wrap64_in _ (by omega), i64_join 8 _ _ (by omega) (by omega) h3 (by omega) (by omega) (by omega)]
  omega

/-- The number of bytes, the highest first. -/
def numOf (zs : List Int) : Int := zs.foldl (fun n z => 256 * n + z) 0

theorem numOf_snoc (zs : List Int) (z : Int) : numOf (zs ++ [z]) = 256 * numOf zs + z := by simp [numOf]

/-- A list of bytes. -/
def Bytes (zs : List Int) : Prop := ∀ z ∈ zs, 0 ≤ z ∧ z ≤ 255

theorem numOf_bd : ∀ (n : Nat) (zs : List Int), zs.length = n → Bytes zs → 0 ≤ numOf zs ∧ numOf zs < 256 ^ n
  | 0, zs, h, _ => by
    have : zs = [] := List.eq_nil_of_length_eq_zero h
    subst this; simp [numOf]
  | n + 1, zs, h, hb => by
    rcases List.eq_nil_or_concat zs with rfl | ⟨ys, y, rfl⟩
    · simp at h
    · rw [List.concat_eq_append] at *
      have h1 := numOf_bd n ys (by simpa using h) (fun z hz => hb z (by simp [hz]))
      have h2 := hb y (by simp)
      rw [numOf_snoc]
      rw [Int.pow_succ]
      omega

theorem take_snoc (zs : List Int) (k : Nat) (h : k < zs.length) : zs.take (k + 1) = zs.take k ++ [zs.getD k 0] := by
  rw [List.take_succ_eq_append_getElem h]; simp [List.getD, h]

theorem Bytes.take {zs : List Int} (h : Bytes zs) (k : Nat) : Bytes (zs.take k) := fun z hz => h z (List.mem_of_mem_take hz)
theorem Bytes.drop {zs : List Int} (h : Bytes zs) (k : Nat) : Bytes (zs.drop k) := fun z hz => h z (List.mem_of_mem_drop hz)
theorem Bytes.append {xs ys : List Int} (h : Bytes xs) (k : Bytes ys) : Bytes (xs ++ ys) := fun z hz => (List.mem_append.1 hz).elim (h z) (k z)
theorem Bytes.getD {zs : List Int} (h : Bytes zs) (k : Nat) : 0 ≤ zs.getD k 0 ∧ zs.getD k 0 ≤ 255 := by
  by_cases hk : k < zs.length
  · have := h zs[k] (List.getElem_mem hk)
    simpa [List.getD, hk] using this
  · simp [List.getD, Nat.le_of_not_lt hk]
theorem Bytes.nil : Bytes [] := fun _ h => by cases h

theorem numOf_le4 (zs : List Int) (hb : Bytes zs) (h : zs.length ≤ 3) : 0 ≤ numOf zs ∧ numOf zs < 4294967296 := by
  have h1 := numOf_bd zs.length zs rfl hb
  obtain ⟨h1, h2⟩ := h1
  refine ⟨h1, ?_⟩
  have h3 : zs.length = 0 ∨ zs.length = 1 ∨ zs.length = 2 ∨ zs.length = 3 := by omega
  rcases h3 with e | e | e | e <;> rw [e] at h2 <;> omega

/-- One round of a number's reading. -/
theorem numOf_round (zs : List Int) (hb : Bytes zs) (k : Nat) (hk : k < zs.length) (h4 : k ≤ 3) : bits .or .i64 (wrap64 (numOf (zs.take k) * 256)) (wrap64 (zs[k]?.getD 0)) = numOf (zs.take (k + 1)) := by
  have h1 := numOf_le4 (zs.take k) (hb.take k) (by simp; omega)
  have h2 := hb.getD k
  have e : zs[k]?.getD 0 = zs.getD k 0 := by simp [List.getD]
  rw [e, or_byte _ _ h1.1 h1.2 h2.1 h2.2, take_snoc zs k hk, numOf_snoc]

end Go.Proofs.YtjcklpdifanjlaaDoor

/- SHA-256 by definition, on lists of numbers, with no word of the program: the words' functions, the schedule, the rounds, the block step, what stands behind a text, the digest. -/
namespace Go.Proofs.YtjcklpdifanjlaaDoor
set_option maxRecDepth 20000
open Go.RowKit

/-- A sum of words. -/
def ad (x y : Int) : Int := (x + y) % 4294967296
/-- A word turned right. -/
def rot (x n : Int) : Int := bits .or .u32 (x / 2 ^ n.toNat) (x * 2 ^ (32 - n).toNat % 4294967296)
def xo (x y : Int) : Int := bits .xor .u32 x y
def sm0 (x : Int) : Int := xo (xo (rot x 7) (rot x 18)) (x / 8)
def sm1 (x : Int) : Int := xo (xo (rot x 17) (rot x 19)) (x / 1024)
def big0 (x : Int) : Int := xo (xo (rot x 2) (rot x 13)) (rot x 22)
def big1 (x : Int) : Int := xo (xo (rot x 6) (rot x 11)) (rot x 25)
def chs (e f g : Int) : Int := xo (bits .and .u32 e f) (bits .and .u32 (bits .xor .u32 4294967295 e) g)
def maj (a b c : Int) : Int := xo (xo (bits .and .u32 a b) (bits .and .u32 a c)) (bits .and .u32 b c)

/-- The words' number k of a block, the ones ahead being ws. -/
def nextWord (b ws : List Int) (k : Nat) : Int :=
  if k < 16 then b.getD (4 * k) 0 * 16777216 + b.getD (4 * k + 1) 0 * 65536 + b.getD (4 * k + 2) 0 * 256 + b.getD (4 * k + 3) 0
  else ad (ad (ad (sm1 (ws.getD (k - 2) 0)) (ws.getD (k - 7) 0)) (sm0 (ws.getD (k - 15) 0))) (ws.getD (k - 16) 0)
/-- The first k words of a block. -/
def sch (b : List Int) : Nat → List Int
  | 0 => []
  | k + 1 => sch b k ++ [nextWord b (sch b k) k]

theorem sch_length (b : List Int) : ∀ k, (sch b k).length = k
  | 0 => rfl
  | k + 1 => by simp [sch, sch_length b k]

theorem sch_get (b : List Int) (k : Nat) : (sch b (k + 1)).getD k 0 = nextWord b (sch b k) k := by
  have := sch_length b k
  simp [sch, List.getD, this]

theorem sch_get_le (b : List Int) (i : Nat) : ∀ k, i < k → (sch b k).getD i 0 = nextWord b (sch b i) i
  | k + 1, h => by
    by_cases e : i = k
    · subst e; exact sch_get b i
    · rw [← sch_get_le b i k (by omega)]
      have := sch_length b k
      simp [sch, List.getD, List.getElem?_append_left (show i < (sch b k).length by omega)]

/-- The constants of the rounds. -/
def ks : List Int := [1116352408, 1899447441, 3049323471, 3921009573, 961987163, 1508970993, 2453635748, 2870763221, 3624381080, 310598401, 607225278, 1426881987, 1925078388, 2162078206, 2614888103, 3248222580, 3835390401, 4022224774, 264347078, 604807628, 770255983, 1249150122, 1555081692, 1996064986, 2554220882, 2821834349, 2952996808, 3210313671, 3336571891, 3584528711, 113926993, 338241895, 666307205, 773529912, 1294757372, 1396182291, 1695183700, 1986661051, 2177026350, 2456956037, 2730485921, 2820302411, 3259730800, 3345764771, 3516065817, 3600352804, 4094571909, 275423344, 430227734, 506948616, 659060556, 883997877, 958139571, 1322822218, 1537002063, 1747873779, 1955562222, 2024104815, 2227730452, 2361852424, 2428436474, 2756734187, 3204031479, 3329325298]
/-- The words that every digest begins with. -/
def hs : List Int := [1779033703, 3144134277, 1013904242, 2773480762, 1359893119, 2600822924, 528734635, 1541459225]

/-- One round. -/
def rnd (k w : Int) : List Int → List Int
  | [a, b, c, d, e, f, g, h] =>
    let t1 := ad (ad (ad (ad h (big1 e)) (chs e f g)) k) w
    [ad t1 (ad (big0 a) (maj a b c)), a, b, c, ad d t1, e, f, g]
  | l => l
/-- The first k rounds. -/
def rds (ws v : List Int) : Nat → List Int
  | 0 => v
  | k + 1 => rnd (ks.getD k 0) (ws.getD k 0) (rds ws v k)

theorem eight {α : Type} (l : List α) (h : l.length = 8) : ∃ a b c d e f g i, l = [a, b, c, d, e, f, g, i] := by
  match l, h with
  | [a, b, c, d, e, f, g, i], _ => exact ⟨a, b, c, d, e, f, g, i, rfl⟩

theorem rnd_length (k w : Int) (l : List Int) (h : l.length = 8) : (rnd k w l).length = 8 := by
  obtain ⟨a, b, c, d, e, f, g, i, rfl⟩ := eight l h
  rfl
theorem rds_length (ws v : List Int) (h : v.length = 8) : ∀ k, (rds ws v k).length = 8
  | 0 => h
  | k + 1 => rnd_length _ _ _ (rds_length ws v h k)

/-- The block step. -/
def stp (h b : List Int) : List Int := List.zipWith ad h (rds (sch b 64) h 64)
theorem stp_length (h b : List Int) (hl : h.length = 8) : (stp h b).length = 8 := by
  simp [stp, rds_length _ _ hl, hl]

/-- The words behind the first n blocks of a text. -/
def eat (l : List Int) : Nat → List Int
  | 0 => hs
  | n + 1 => stp (eat l n) ((l.drop (64 * n)).take 64)
theorem eat_length (l : List Int) : ∀ n, (eat l n).length = 8
  | 0 => rfl
  | n + 1 => stp_length _ _ (eat_length l n)

theorem eat_append (l m : List Int) : ∀ n, 64 * n ≤ l.length → eat (l ++ m) n = eat l n
  | 0, _ => rfl
  | n + 1, h => by
    simp only [eat]
    rw [eat_append l m n (by omega), List.drop_append_of_le_length (by omega), List.take_append_of_le_length (by rw [List.length_drop]; omega)]

/-- A number as eight bytes, the highest first: the first k of them. -/
def be8 (n : Int) : Nat → List Int
  | 0 => []
  | k + 1 => be8 n k ++ [n / 2 ^ (8 * (7 - k)) % 256]
theorem be8_length (n : Int) : ∀ k, (be8 n k).length = k
  | 0 => rfl
  | k + 1 => by simp [be8, be8_length n k]
theorem be8_bytes (n : Int) : ∀ k, Bytes (be8 n k)
  | 0 => Bytes.nil
  | k + 1 => (be8_bytes n k).append (by intro z hz; simp at hz; subst hz; omega)

/-- What stands behind a text of n bytes. -/
def pad (n : Nat) : List Int := 128 :: List.replicate ((119 - n % 64) % 64) 0 ++ be8 (8 * n) 8
theorem pad_length (n : Nat) : (pad n).length = 9 + (119 - n % 64) % 64 := by
  simp [pad, be8_length]; omega
theorem pad_whole (n : Nat) : (n + (pad n).length) % 64 = 0 := by
  rw [pad_length]; omega
theorem pad_bytes (n : Nat) : Bytes (pad n) := by
  intro z hz
  simp only [pad, List.cons_append, List.mem_cons, List.mem_append] at hz
  rcases hz with rfl | hz | hz
  · omega
  · rw [List.eq_of_mem_replicate hz]; omega
  · exact be8_bytes _ _ z hz

/-- Eight words as bytes. -/
def out (v : List Int) : List Int := v.flatMap fun x => [x / 16777216 % 256, x / 65536 % 256, x / 256 % 256, x % 256]
theorem out_bytes (v : List Int) : Bytes (out v) := by
  intro z hz
  simp only [out, List.mem_flatMap] at hz
  obtain ⟨x, _, hz⟩ := hz
  simp at hz
  omega
theorem out_length (v : List Int) : (out v).length = 4 * v.length := by
  induction v with
  | nil => rfl
  | cons a v ih =>
    have : out (a :: v) = [a / 16777216 % 256, a / 65536 % 256, a / 256 % 256, a % 256] ++ out v := by simp [out]
    rw [this, List.length_append, ih]; simp; omega

/-- The digest of a text. -/
def dig (l : List Int) : List Int := out (eat (l ++ pad l.length) ((l.length + (pad l.length).length) / 64))
theorem dig_bytes (l : List Int) : Bytes (dig l) := out_bytes _
theorem dig_length (l : List Int) : (dig l).length = 32 := by rw [dig, out_length, eat_length]

end Go.Proofs.YtjcklpdifanjlaaDoor
