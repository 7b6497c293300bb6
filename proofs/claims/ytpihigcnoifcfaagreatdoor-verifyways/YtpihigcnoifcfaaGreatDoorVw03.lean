/- Bits packed eight in a byte, the first in the highest place: by definition, with no word of the program. -/
import Derived.Test.YtpihigcnoifcfaaGreatDoorVw02
import Derived.Test.YtpihigcnoifcfaaGreatDoorVw01
import Derived.Test.YtpihigcnoifcfaaGreatDoorProg
import Derived.Deep.MidRow
import Derived.Deep.WholeRow
import Derived.Laws.ResultCell
import Derived.BigQuiet
import Derived.Deep.QuietTactic
namespace Go.Proofs.YtpihigcnoifcfaaGreatDoor
set_option maxRecDepth 20000
open Go.RowKit

def bI (b : Bool) : Int := if b then 1 else 0
theorem bI_one (b : Bool) : bI b = 1 ↔ b = true := by cases b <;> simp [bI]
theorem bI_zero (b : Bool) : bI b = 0 ↔ b = false := by cases b <;> simp [bI]
theorem bI_inj {a b : Bool} (h : bI a = bI b) : a = b := by cases a <;> cases b <;> simp [bI] at h ⊢

/-- The byte q of these bits, built up bit by bit. -/
def v8 (G : Nat → Bool) (q : Nat) : Nat → Int
  | 0 => 0
  | k + 1 => 2 * v8 G q k + bI (G (8 * q + k))

theorem v8_in (G : Nat → Bool) (q : Nat) : ∀ k, 0 ≤ v8 G q k ∧ v8 G q k < 2 ^ k := by
  intro k
  induction k with
  | zero => simp [v8]
  | succ k ih =>
    have h : bI (G (8 * q + k)) = 0 ∨ bI (G (8 * q + k)) = 1 := by cases G (8 * q + k) <;> simp [bI]
    have e : (2 : Int) ^ (k + 1) = 2 ^ k * 2 := Int.pow_succ ..
    rw [v8, e]
    omega

theorem v8_byte (G : Nat → Bool) (q : Nat) : 0 ≤ v8 G q 8 ∧ v8 G q 8 ≤ 255 := by
  have := v8_in G q 8
  have e : (2 : Int) ^ 8 = 256 := by decide
  rw [e] at this
  omega

theorem v8_bt (G : Nat → Bool) (q k : Nat) (hk : k < 8) : bt (v8 G q 8) k = bI (G (8 * q + k)) := by
  have h0 : G (8 * q) = G (8 * q + 0) := rfl
  have key := (show ∀ b0 b1 b2 b3 b4 b5 b6 b7 : Bool, ∀ k, k < 8 → bt (2 * (2 * (2 * (2 * (2 * (2 * (2 * (2 * 0 + bI b0) + bI b1) + bI b2) + bI b3) + bI b4) + bI b5) + bI b6) + bI b7) k = bI ([b0, b1, b2, b3, b4, b5, b6, b7].getD k false) from by decide +kernel)
    (G (8 * q + 0)) (G (8 * q + 1)) (G (8 * q + 2)) (G (8 * q + 3)) (G (8 * q + 4)) (G (8 * q + 5)) (G (8 * q + 6)) (G (8 * q + 7)) k hk
  have e : v8 G q 8 = 2 * (2 * (2 * (2 * (2 * (2 * (2 * (2 * 0 + bI (G (8 * q + 0))) + bI (G (8 * q + 1))) + bI (G (8 * q + 2))) + bI (G (8 * q + 3))) + bI (G (8 * q + 4))) + bI (G (8 * q + 5))) + bI (G (8 * q + 6))) + bI (G (8 * q + 7)) := rfl
  rw [e, key]
  match k, hk with
  | 0, _ | 1, _ | 2, _ | 3, _ | 4, _ | 5, _ | 6, _ | 7, _ => rfl

/-- m bytes of bits. -/
def bitsOf (G : Nat → Bool) (m : Nat) : List Int := (List.range m).map fun q => v8 G q 8
theorem bitsOf_length (G : Nat → Bool) (m : Nat) : (bitsOf G m).length = m := by simp [bitsOf]
theorem bitsOf_bytes (G : Nat → Bool) (m : Nat) : Bytes (bitsOf G m) := fun z hz => by
  simp only [bitsOf, List.mem_map] at hz
  obtain ⟨q, _, rfl⟩ := hz
  exact v8_byte G q
theorem bitsOf_getD (G : Nat → Bool) (m q : Nat) (h : q < m) : (bitsOf G m).getD q 0 = v8 G q 8 := by simp [bitsOf, List.getD, h]
theorem bitsOf_kb (G : Nat → Bool) (m j : Nat) (h : j < 8 * m) : kb (bitsOf G m) j = bI (G j) := by
  unfold kb
  rw [bitsOf_getD G m _ (by omega), v8_bt G _ _ (by omega), show 8 * (j / 8) + j % 8 = j by omega]
theorem bits_ext {xs ys : List Int} (hx : Bytes xs) (hy : Bytes ys) (hl : xs.length = ys.length) (h : ∀ j, j < 8 * xs.length → kb xs j = kb ys j) : xs = ys := by
  apply List.ext_getElem hl
  intro i h1 h2
  have e : xs.getD i 0 = ys.getD i 0 := by
    refine byte_ext _ _ (hx.getD i) (hy.getD i) fun k hk => ?_
    have := h (8 * i + k) (by omega)
    unfold kb at this
    rw [show (8 * i + k) / 8 = i by omega, show (8 * i + k) % 8 = k by omega] at this
    exact this
  simpa [List.getD, h1, h2] using e
theorem bits_is {xs : List Int} {G : Nat → Bool} {m : Nat} (hx : Bytes xs) (hl : xs.length = m) (h : ∀ j, j < 8 * m → kb xs j = bI (G j)) : xs = bitsOf G m :=
  bits_ext hx (bitsOf_bytes G m) (by rw [hl, bitsOf_length]) fun j hj => by rw [hl] at hj; rw [h j hj, bitsOf_kb G m j hj]
theorem bitsOf_congr {G H : Nat → Bool} {m : Nat} (h : ∀ j, j < 8 * m → G j = H j) : bitsOf G m = bitsOf H m :=
  bits_is (bitsOf_bytes G m) (bitsOf_length G m) fun j hj => by rw [bitsOf_kb G m j hj, h j hj]

/-- One bit more. -/
theorem bits_set {G H : Nat → Bool} {m j : Nat} (hj : j < 8 * m) (h : ∀ i, i < 8 * m → H i = if i = j then true else G i) :
    (bitsOf G m).set (j / 8) (bits .or .u8 ((bitsOf G m).getD (j / 8) 0) (2 ^ (7 - j % 8))) = bitsOf H m := by
  have hp : (0 : Int) ≤ 2 ^ (7 - j % 8) ∧ (2 : Int) ^ (7 - j % 8) ≤ 255 := by
    have := (show ∀ k, k < 8 → 2 ^ (7 - k) ≤ 255 from by decide +kernel) (j % 8) (by omega)
    have e : (2 : Int) ^ (7 - j % 8) = ((2 ^ (7 - j % 8) : Nat) : Int) := by rw [Int.natCast_pow]; rfl
    rw [e]
    exact ⟨Int.natCast_nonneg _, Int.ofNat_le.2 this⟩
  have hx := bitsOf_bytes G m
  have hlt : j / 8 < (bitsOf G m).length := by rw [bitsOf_length]; omega
  refine bits_is (hx.set _ _ (bits_byte _ _ _)) (by rw [List.length_set, bitsOf_length]) fun i hi => ?_
  rw [kb_set _ _ _ _ hlt, h i hi]
  by_cases e : i / 8 = j / 8
  · rw [if_pos e, bt_or _ _ (hx.getD _) hp, bt_pow _ _ (by omega) (by omega)]
    by_cases q : i = j
    · subst q
      rw [if_pos rfl, if_pos rfl, if_pos rfl]
      rfl
    · rw [if_neg q, if_neg (show ¬ i % 8 = j % 8 by omega), if_neg (by omega)]
      have := bitsOf_kb G m i hi
      unfold kb at this
      rw [e] at this
      exact this
  · rw [if_neg e, if_neg (show i ≠ j by intro q; exact e (by rw [q])), bitsOf_kb G m i hi]

/-- Whether a bit is set: as the program asks. -/
theorem and_mark (x : Int) (hx : 0 ≤ x ∧ x ≤ 255) (k : Nat) (hk : k < 8) : bits .and .u8 x (2 ^ (7 - k)) = 0 ↔ bt x k = 0 := by
  obtain ⟨n, hn, rfl⟩ := nat_of x hx
  have e : (2 : Int) ^ (7 - k) = ((2 ^ (7 - k) : Nat) : Int) := by rw [Int.natCast_pow]; rfl
  have h1 : bt (n : Int) k = ((n / 2 ^ (7 - k) % 2 : Nat) : Int) := by unfold bt; norm_cast
  have h2 := (show ∀ k, k < 8 → 2 ^ (7 - k) < 256 from by decide +kernel) k hk
  have h3 := (show ∀ n, n < 256 → ∀ k, k < 8 → (n &&& 2 ^ (7 - k) = 0 ↔ n / 2 ^ (7 - k) % 2 = 0) from by decide +kernel) n hn k hk
  rw [e, u8_and_nat n _ hn h2, h1]
  constructor
  · intro h
    have := h3.1 (by exact_mod_cast h)
    exact_mod_cast this
  · intro h
    have := h3.2 (by exact_mod_cast h)
    exact_mod_cast this

end Go.Proofs.YtpihigcnoifcfaaGreatDoor

/- SHA-256 by definition, on lists of numbers, with no word of the program: the words' functions, the schedule, the rounds, the block step, what stands behind a text, the digest. -/
namespace Go.Proofs.YtpihigcnoifcfaaGreatDoor
set_option maxRecDepth 20000
open Go.RowKit

/-- A sum of words. -/
def ad (x y : Int) : Int := (x + y) % 4294967296
/-- A word turned right. -/
def rot (x n : Int) : Int := bits .or .u32 (x / 2 ^ n.toNat) (x * 2 ^ (32 - n).toNat % 4294967296)
def xo (x y : Int) : Int := bits .xor .u32 x y
def sm0 (x : Int) : Int := xo (xo (rot x 7) (rot x 18)) (x / 8)
def sm1 (x : Int) : Int := xo (xo (rot x 17) (rot x 19)) (x / 1024)
def big0 (x : Int) : Int := xo (xo (rot x 2) (rot x 13)) (rot x 22)
def big1 (x : Int) : Int := xo (xo (rot x 6) (rot x 11)) (rot x 25)
def chs (e f g : Int) : Int := xo (bits .and .u32 e f) (bits .and .u32 (bits .xor .u32 4294967295 e) g)
def maj (a b c : Int) : Int := xo (xo (bits .and .u32 a b) (bits .and .u32 a c)) (bits .and .u32 b c)

/-- The words' number k of a block, the ones ahead being ws. -/
def nextWord (b ws : List Int) (k : Nat) : Int :=
  if k < 16 then b.getD (4 * k) 0 * 16777216 + b.getD (4 * k + 1) 0 * 65536 + b.getD (4 * k + 2) 0 * 256 + b.getD (4 * k + 3) 0
  else ad (ad (ad (sm1 (ws.getD (k - 2) 0)) (ws.getD (k - 7) 0)) (sm0 (ws.getD (k - 15) 0))) (ws.getD (k - 16) 0)
/-- The first k words of a block. -/
def sch (b : List Int) : Nat → List Int
  | 0 => []
  | k + 1 => sch b k ++ [nextWord b (sch b k) k]

theorem sch_length (b : List Int) : ∀ k, (sch b k).length = k
  | 0 => rfl
  | k + 1 => by simp [sch, sch_length b k]

theorem sch_get (b : List Int) (k : Nat) : (sch b (k + 1)).getD k 0 = nextWord b (sch b k) k := by
  have := sch_length b k
  simp [sch, List.getD, this]

theorem sch_get_le (b : List Int) (i : Nat) : ∀ k, i < k → (sch b k).getD i 0 = nextWord b (sch b i) i
  | k + 1, h => by
    by_cases e : i = k
    · subst e; exact sch_get b i
    · rw [← sch_get_le b i k (by omega)]
      have := sch_length b k
      simp [sch, List.getD, List.getElem?_append_left (show i < (sch b k).length by omega)]

/-- The constants of the rounds. -/
def ks : List Int := [1116352408, 1899447441, 3049323471, 3921009573, 961987163, 1508970993, 2453635748, 2870763221, 3624381080, 310598401, 607225278, 1426881987, 1925078388, 2162078206, 2614888103, 3248222580, 3835390401, 4022224774, 264347078, 604807628, 770255983, 1249150122, 1555081692, 1996064986, 2554220882, 2821834349, 2952996808, 3210313671, 3336571891, 3584528711, 113926993, 338241895, 666307205, 773529912, 1294757372, 1396182291, 1695183700, 1986661051, 2177026350, 2456956037, 2730485921, 2820302411, 3259730800, 3345764771, 3516065817, 3600352804, 4094571909, 275423344, 430227734, 506948616, 659060556, 883997877, 958139571, 1322822218, 1537002063, 1747873779, 1955562222, 2024104815, 2227730452, 2361852424, 2428436474, 2756734187, 3204031479, 3329325298]
/-- The words that every digest begins with. -/
def hs : List Int := [1779033703, 3144134277, 1013904242, 2773480762, 1359893119, 2600822924, 528734635, 1541459225]

/-- One round. -/
def rnd (k w : Int) : List Int → List Int
  | [a, b, c, d, e, f, g, h] =>
    let t1 := ad (ad (ad (ad h (big1 e)) (chs e f g)) k) w
    [ad t1 (ad (big0 a) (maj a b c)), a, b, c, ad d t1, e, f, g]
  | l => l
/-- The first k rounds. -/
def rds (ws v : List Int) : Nat → List Int
  | 0 => v
  | k + 1 => rnd (ks.getD k 0) (ws.getD k 0) (rds ws v k)

theorem eight {α : Type} (l : List α) (h : l.length = 8) : ∃ a b c d e f g i, l = [a, b, c, d, e, f, g, i] := by
  match l, h with
  | [a, b, c, d, e, f, g, i], _ => exact ⟨a, b, c, d, e, f, g, i, rfl⟩

theorem rnd_length (k w : Int) (l : List Int) (h : l.length = 8) : (rnd k w l).length = 8 := by
  obtain ⟨a, b, c, d, e, f, g, i, rfl⟩ := eight l h
  rfl
theorem rds_length (ws v : List Int) (h : v.length = 8) : ∀ k, (rds ws v k).length = 8
  | 0 => h
  | k + 1 => rnd_length _ _ _ (rds_length ws v h k)

/-- The block step. -/
def stp (h b : List Int) : List Int := List.zipWith ad h (rds (sch b 64) h 64)
theorem stp_length (h b : List Int) (hl : h.length = 8) : (stp h b).length = 8 := by
  simp [stp, rds_length _ _ hl, hl]

/-- The words behind the first n blocks of a text. -/
def eat (l : List Int) : Nat → List Int
  | 0 => hs
  | n + 1 => stp (eat l n) ((l.drop (64 * n)).take 64)
theorem eat_length (l : List Int) : ∀ n, (eat l n).length = 8
  | 0 => rfl
  | n + 1 => stp_length _ _ (eat_length l n)

theorem eat_append (l m : List Int) : ∀ n, 64 * n ≤ l.length → eat (l ++ m) n = eat l n
  | 0, _ => rfl
  | n + 1, h => by
    simp only [eat]
    rw [eat_append l m n (by omega), List.drop_append_of_le_length (by omega), List.take_append_of_le_length (by rw [List.length_drop]; omega)]

/-- A number as eight bytes, the highest first: the first k of them. -/
def be8 (n : Int) : Nat → List Int
  | 0 => []
  | k + 1 => be8 n k ++ [n / 2 ^ (8 * (7 - k)) % 256]
theorem be8_length (n : Int) : ∀ k, (be8 n k).length = k
  | 0 => rfl
  | k + 1 => by simp [be8, be8_length n k]
theorem be8_bytes (n : Int) : ∀ k, Bytes (be8 n k)
  | 0 => Bytes.nil
  | k + 1 => (be8_bytes n k).append (by intro z hz; simp at hz; subst hz; omega)

/-- What stands behind a text of n bytes. -/
def pad (n : Nat) : List Int := 128 :: List.replicate ((119 - n % 64) % 64) 0 ++ be8 (8 * n) 8
theorem pad_length (n : Nat) : (pad n).length = 9 + (119 - n % 64) % 64 := by
  simp [pad, be8_length]; omega
theorem pad_whole (n : Nat) : (n + (pad n).length) % 64 = 0 := by
  rw [pad_length]; omega
theorem pad_bytes (n : Nat) : Bytes (pad n) := by
  intro z hz
  simp only [pad, List.cons_append, List.mem_cons, List.mem_append] at hz
  rcases hz with rfl | hz | hz
  · omega
  · rw [List.eq_of_mem_replicate hz]; omega
  · exact be8_bytes _ _ z hz

/-- Eight words as bytes. -/
def out (v : List Int) : List Int := v.flatMap fun x => [x / 16777216 % 256, x / 65536 % 256, x / 256 % 256, x % 256]
theorem out_bytes (v : List Int) : Bytes (out v) := by
  intro z hz
  simp only [out, List.mem_flatMap] at hz
  obtain ⟨x, _, hz⟩ := hz
  simp at hz
  omega
theorem out_length (v : List Int) : (out v).length = 4 * v.length := by
  induction v with
  | nil => rfl
  | cons a v ih =>
    have : out (a :: v) = [a / 16777216 % 256, a / 65536 % 256, a / 256 % 256, a % 256] ++ out v := by simp [out]
    rw [this, List.length_append, ih]; simp; omega

/-- The digest of a text. -/
def dig (l : List Int) : List Int := out (eat (l ++ pad l.length) ((l.length + (pad l.length).length) / 64))
theorem dig_bytes (l : List Int) : Bytes (dig l) := out_bytes _
theorem dig_length (l : List Int) : (dig l).length = 32 := by rw [dig, out_length, eat_length]

end Go.Proofs.YtpihigcnoifcfaaGreatDoor

/- Blocks whose cells are known whole, and laws for a walk over them: loads, stores, new variables, literals. -/
namespace Go.Proofs.YtpihigcnoifcfaaGreatDoor
set_option maxRecDepth 20000
open Go.RowKit

/-- Block g holds just these cells. -/
def Blk (w : World) (g : Nat) (t : TypeId) (cs : Array Value) : Prop := w.heap[g]? = some (.cells cs t (0, 0))

theorem Blk.lt {w : World} {g : Nat} {t : TypeId} {cs : Array Value} (h : Blk w g t cs) : g < w.heap.size := (Array.getElem?_eq_some_iff.1 h).1

theorem Blk.of_block {w w' : World} {g : Nat} {t : TypeId} {cs : Array Value} (h : Blk w g t cs) (k : w'.heap[g]? = w.heap[g]?) : Blk w' g t cs := by unfold Blk at *; rw [k]; exact h

theorem Blk.grow {w w' : World} {g : Nat} {t : TypeId} {cs : Array Value} (h : Blk w g t cs) (hb : Below w.heap.size w w') : Blk w' g t cs := h.of_block (hb.block g h.lt)

theorem Blk.cell {w : World} {g : Nat} {t : TypeId} {cs : Array Value} (h : Blk w g t cs) (i : Nat) : w.cell? ⟨g, i, none⟩ = cs[i]? := cell_of_row w g i _ _ _ h

theorem Blk.frozen {w : World} {g : Nat} {t : TypeId} {cs : Array Value} (h : Blk w g t cs) (i : Nat) : w.frozen? ⟨g, i, none⟩ = false := frozen_of_row w g i _ _ h

theorem Blk.set {w : World} {g : Nat} {t : TypeId} {cs : Array Value} (h : Blk w g t cs) (i : Nat) (v : Value) : Blk (w.setCell ⟨g, i, none⟩ v) g t (cs.setIfInBounds i v) := by
  unfold Blk
  rw [heap_setCell_same w g i _ _ _ h]

theorem Blk.other {w : World} {g g' : Nat} {t : TypeId} {cs : Array Value} (h : Blk w g t cs) (i : Nat) (v : Value) (hne : g ≠ g') : Blk (w.setCell ⟨g', i, none⟩ v) g t cs := by
  unfold Blk
  rw [heap_setCell_other w ⟨g', i, none⟩ g v (fun e => hne e)]
  exact h

theorem Blk.new (w : World) (t : TypeId) (cs : Array Value) : Blk (w.alloc (.cells cs t)) w.heap.size t cs := heap_alloc_new w _

theorem Blk.drew {w : World} {g : Nat} {t : TypeId} {cs : Array Value} (h : Blk w g t cs) : Blk w.drew g t cs := h

/-- A whole array out of its block. -/
theorem Blk.load {w : World} {g : Nat} {t : TypeId} {cs : Array Value} (h : Blk w g t cs) (n : Nat) (e : TypeId) (hu : Tryz.prog.underlying t = some (.array n e)) (hi : (Tryz.prog.info? t).map (·.size) = some cs.size) :
    (loadVar t ⟨g, 0, none⟩).run Tryz.prog w = .ok (.agg cs) w := run_loadVar_row _ _ t t cs (0, 0) _ h hu rfl hi

/-- load of a whole array. -/
theorem wpList_ld {ops : Array Oper} {rest : List Oper} {op : Oper} {a : Act} {Q : Exit → Act → World → Prop} (w : World) (hgd : op.guard = none) (x : Operand) (ty : TypeId) (ho : op.op = .load ty x)
    (g : Nat) (cs : Array Value) (hx : a.eval x = .pointer (some ⟨g, 0, none⟩)) (h : Blk w g ty cs) (n : Nat) (e : TypeId) (hu : Tryz.prog.underlying ty = some (.array n e)) (hi : (Tryz.prog.info? ty).map (·.size) = some cs.size)
    (hk : wpList Tryz.prog ops Q rest (a.put op.dst (.agg cs)) w) : wpList Tryz.prog ops Q (op :: rest) a w := by
  refine wpList_plain hgd fun K hK => ?_
  unfold Oper.wp execOp
  simp only [ho, hx, Instr.loadAt, Instr.sureAddr, Sem.run_bind, Sem.run_pure, Result.andThen_ok, h.load n e hu hi]
  exact hK _ _ hk

theorem setRow_below {w0 w : World} {g : Nat} (cs : Array Value) (hb : Below w0.heap.size w0 w) (hg : w0.heap.size ≤ g) : Below w0.heap.size w0 (w.setRow g cs) :=
  hb.grown (row := some g) ⟨rfl, rfl, rfl, by simp, fun k _ hk => setRow_other w g k _ (fun e => hk (by simp [e]))⟩ hb.size (fun k hk => by injection hk with hk; omega)

theorem setCell_below {w0 w : World} {g : Nat} (o : Nat) (v : Value) (hb : Below w0.heap.size w0 w) (hg : w0.heap.size ≤ g) : Below w0.heap.size w0 (w.setCell ⟨g, o, none⟩ v) :=
  hb.grown (grown_setCell w g o v) hb.size (fun k hk => by injection hk with hk; omega)

theorem Blk.row {w : World} {g : Nat} {t : TypeId} {cs : Array Value} (h : Blk w g t cs) (cs' : Array Value) : Blk (w.setRow g cs') g t cs' := setRow_heap w g _ _ _ _ h

theorem Blk.rowOther {w : World} {g g' : Nat} {t : TypeId} {cs : Array Value} (h : Blk w g t cs) (cs' : Array Value) (hne : g ≠ g') : Blk (w.setRow g' cs') g t cs := h.of_block (setRow_other w g' g _ hne)

/-- store of a whole array. -/
theorem wpList_st {ops : Array Oper} {rest : List Oper} {op : Oper} {a : Act} {Q : Exit → Act → World → Prop} (w : World) (hgd : op.guard = none) (x y : Operand) (ty : TypeId) (ho : op.op = .store ty x y)
    (g : Nat) (cs cs' : Array Value) (hx : a.eval x = .pointer (some ⟨g, 0, none⟩)) (hy : a.eval y = .agg cs') (h : Blk w g ty cs) (hi : (Tryz.prog.info? ty).map (·.size) = some cs'.size) (hs : cs.size = cs'.size) (h1 : cs'.all (·.oneCell') = true)
    (hk : wpList Tryz.prog ops Q rest (a.put op.dst undef) (w.setRow g cs')) : wpList Tryz.prog ops Q (op :: rest) a w := by
  refine wpList_plain hgd fun K hK => ?_
  unfold Oper.wp execOp
  simp only [ho, hx, hy, Instr.storeAt, Instr.sureAddr, Sem.run_bind, Sem.run_pure, Result.andThen_ok, run_storeVar_row w g ty ty cs cs' h hi hs h1]
  exact hK _ _ hk

/-- A new variable, all noughts. -/
theorem wpList_al {ops : Array Oper} {rest : List Oper} {op : Oper} {a : Act} {Q : Exit → Act → World → Prop} (w : World) (hgd : op.guard = none) (ty : TypeId) (ho : op.op = .alloc ty)
    (cs : Array Value) (hz : ∀ w, (zeroValue ty).run Tryz.prog w = .ok (.agg cs) w)
    (hk : ∀ w' g, w.heap.size ≤ g → g < w'.heap.size → Blk w' g ty cs → Below w.heap.size w w' → wpList Tryz.prog ops Q rest (a.put op.dst (.pointer (some ⟨g, 0, none⟩))) w') : wpList Tryz.prog ops Q (op :: rest) a w := by
  refine wpList_plain hgd fun K hK => ?_
  unfold Oper.wp execOp
  simp [ho, hz, Instr.alloc, newVar, Value.cells, newRow]
  exact hK _ _ (hk _ w.heap.size (Nat.le_refl _) (by simp) (Blk.new w ty cs) (grow_alloc w _))

/-- A new variable that holds a value. -/
theorem wpList_bx {ops : Array Oper} {rest : List Oper} {op : Oper} {a : Act} {Q : Exit → Act → World → Prop} (w : World) (hgd : op.guard = none) (x : Operand) (ty : TypeId) (ho : op.op = .box ty x)
    (cs : Array Value) (hx : a.eval x = .agg cs)
    (hk : ∀ w' g, w.heap.size ≤ g → g < w'.heap.size → Blk w' g ty cs → Below w.heap.size w w' → wpList Tryz.prog ops Q rest (a.put op.dst (.pointer (some ⟨g, 0, none⟩))) w') : wpList Tryz.prog ops Q (op :: rest) a w := by
  refine wpList_plain hgd fun K hK => ?_
  unfold Oper.wp execOp
  simp [ho, hx, Instr.box, newVar, Value.cells, newRow]
  exact hK _ _ (hk _ w.heap.size (Nat.le_refl _) (by simp) (Blk.new w ty cs) (grow_alloc w _))

theorem Blk.range {w : World} {g : Nat} {t : TypeId} {cs : Array Value} (h : Blk w g t cs) : w.rangeAt g 0 cs.toList := fun j v hv => by
  rw [Nat.zero_add, h.cell]
  simpa using hv

theorem cell_set_ne (w : World) (g o g' o' : Nat) (v : Value) (h : g ≠ g') : (w.setCell ⟨g', o', none⟩ v).cell? ⟨g, o, none⟩ = w.cell? ⟨g, o, none⟩ :=
  World.cell?_setCell_other _ _ _ _ (fun e => h (by injection e with e1; exact e1.symm))

theorem cell_set_off (w : World) (g o o' : Nat) (v : Value) (h : o ≠ o') : (w.setCell ⟨g, o', none⟩ v).cell? ⟨g, o, none⟩ = w.cell? ⟨g, o, none⟩ :=
  World.cell?_setCell_other _ _ _ _ (fun e => h (by injection e with _ e1; exact e1.symm))

/-- store of a whole array, the world behind it told by what it holds. -/
theorem wpList_sto {ops : Array Oper} {rest : List Oper} {op : Oper} {a : Act} {Q : Exit → Act → World → Prop} (w : World) (hgd : op.guard = none) (x y : Operand) (ty : TypeId) (ho : op.op = .store ty x y)
    (g : Nat) (cs cs' : Array Value) (hx : a.eval x = .pointer (some ⟨g, 0, none⟩)) (hy : a.eval y = .agg cs') (h : Blk w g ty cs) (hi : (Tryz.prog.info? ty).map (·.size) = some cs'.size) (hs : cs.size = cs'.size) (h1 : cs'.all (·.oneCell') = true)
    (hk : ∀ w', Blk w' g ty cs' → w.grownBy w' (some g) → wpList Tryz.prog ops Q rest (a.put op.dst undef) w') : wpList Tryz.prog ops Q (op :: rest) a w :=
  wpList_st w hgd x y ty ho g cs cs' hx hy h hi hs h1 (hk _ (h.row cs') ⟨rfl, rfl, rfl, by simp, fun k _ hk => setRow_other w g k _ (fun e => hk (by simp [e]))⟩)

theorem Blk.kept {w w' : World} {g g' : Nat} {t : TypeId} {cs : Array Value} (h : Blk w g t cs) (hg : w.grownBy w' (some g')) (hne : g ≠ g') : Blk w' g t cs := h.of_block (hg.block g h.lt (fun e => hne (by injection e)))

/-- A composite literal. -/
theorem wpList_bld {ops : Array Oper} {rest : List Oper} {op : Oper} {a : Act} {Q : Exit → Act → World → Prop} (w : World) (hgd : op.guard = none) (ty : TypeId) (parts : Array (Nat × Operand)) (ho : op.op = .build ty parts)
    (cs : Array Value) (h : Tryz.prog.built ty (parts.map fun (i, x) => (i, a.eval x)).toList = some cs)
    (hk : wpList Tryz.prog ops Q rest (a.put op.dst (.agg cs)) w) : wpList Tryz.prog ops Q (op :: rest) a w := by
  refine wpList_build hgd ty parts ho (by rw [h]; rfl) ?_
  rw [h]
  exact hk

/-- store of a whole array, in a region that draws its order. -/
theorem step_sto {ops : Array Oper} {o : Oper} {a : Act} {K : Act → World → Prop} {Q : Exit → Act → World → Prop} {E : Prop} (w : World) (hgd : o.guard = none) (x y : Operand) (ty : TypeId) (ho : o.op = .store ty x y)
    (g : Nat) (cs cs' : Array Value) (hx : a.eval x = .pointer (some ⟨g, 0, none⟩)) (hy : a.eval y = .agg cs') (h : Blk w g ty cs) (hi : (Tryz.prog.info? ty).map (·.size) = some cs'.size) (hs : cs.size = cs'.size) (h1 : cs'.all (·.oneCell') = true)
    (hk : ∀ w', Blk w' g ty cs' → w.grownBy w' (some g) → K (a.put o.dst undef) w') : if Region.wanted o (yielded ops a.tmps) = true then Oper.wp Tryz.prog o a w K Q else E := by
  have hw : Region.wanted o (yielded ops a.tmps) = true := by simp [Region.wanted, hgd]
  rw [if_pos hw]
  unfold Oper.wp execOp
  simp only [ho, hx, hy, Instr.storeAt, Instr.sureAddr, Sem.run_bind, Sem.run_pure, Result.andThen_ok, run_storeVar_row w g ty ty cs cs' h hi hs h1]
  exact hk _ (h.row cs') ⟨rfl, rfl, rfl, by simp, fun k _ hk => setRow_other w g k _ (fun e => hk (by simp [e]))⟩

/-- load of a whole struct. -/
theorem wpList_lds {ops : Array Oper} {rest : List Oper} {op : Oper} {a : Act} {Q : Exit → Act → World → Prop} (w : World) (hgd : op.guard = none) (x : Operand) (ty : TypeId) (ho : op.op = .load ty x)
    (g : Nat) (t : TypeId) (cs : Array Value) (hx : a.eval x = .pointer (some ⟨g, 0, none⟩)) (h : Blk w g t cs) {fs : Array Field} (hu : Tryz.prog.underlying ty = some (.struct fs)) (hi : (Tryz.prog.info? ty).map (·.size) = some cs.size)
    (hk : wpList Tryz.prog ops Q rest (a.put op.dst (.agg cs)) w) : wpList Tryz.prog ops Q (op :: rest) a w :=
  wpList_load_row hgd ty x ho g hx t cs (0, 0) _ h hu rfl hi hk

theorem wpList_ldsg {ops : Array Oper} {rest : List Oper} {op : Oper} {a : Act} {Q : Exit → Act → World → Prop} (w : World) (hgd : Region.wanted op (yielded ops a.tmps) = true) (x : Operand) (ty : TypeId) (ho : op.op = .load ty x)
    (g : Nat) (t : TypeId) (cs : Array Value) (hx : a.eval x = .pointer (some ⟨g, 0, none⟩)) (h : Blk w g t cs) {fs : Array Field} (hu : Tryz.prog.underlying ty = some (.struct fs)) (hi : (Tryz.prog.info? ty).map (·.size) = some cs.size)
    (hk : wpList Tryz.prog ops Q rest (a.put op.dst (.agg cs)) w) : wpList Tryz.prog ops Q (op :: rest) a w :=
  BigFrame.wpList_want hgd fun _ hK => wp_load_row ty x ho g hx t cs (0, 0) _ h hu rfl hi (hK _ _ hk)

theorem results_agg_tmp {fn : Func} {p u : Tmp} {ty : TypeId} (h : fn.results = #[.cell p ty, .tmp u]) (tmps : Array Value) (w : World) (g : Nat) (cs : Array Value) {fs : Array Field} (x : Value) (hp : tmps.getD p undef = .pointer (some ⟨g, 0, none⟩)) (hx : tmps.getD u undef = x) (hg : Blk w g ty cs)
    (hu : Tryz.prog.underlying ty = some (.struct fs)) (hi : (Tryz.prog.info? ty).map (·.size) = some cs.size) :
    (results fn tmps).run Tryz.prog w = .ok (.tuple #[.agg cs, x]) w := by
  rw [results_cell_tmp h, hp, hx]
  simp [asAddr, run_loadVar_row w g ty ty cs (0, 0) _ hg hu rfl hi]

theorem below_cell {w w' : World} (hb : Below w.heap.size w w') {g o : Nat} {v : Value} (h : w.cell? ⟨g, o, none⟩ = some v) : w'.cell? ⟨g, o, none⟩ = some v := (hb.cell (p := ⟨g, o, none⟩) (block_lt_of_cell h)).trans h

end Go.Proofs.YtpihigcnoifcfaaGreatDoor
