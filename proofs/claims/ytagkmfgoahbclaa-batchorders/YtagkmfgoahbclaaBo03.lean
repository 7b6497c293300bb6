/- What a statement's arguments are in memory: of an argument that is a slice of bytes: it reads as bytes, and is no longer than memory. -/
import Derived.Test.YtagkmfgoahbclaaBo02
import Derived.Test.YtagkmfgoahbclaaBo01
namespace Go.Proofs.Ytagkmfgoahbclaa
set_option maxRecDepth 20000
open Go.ChangeShapes Go.WideShapes Go.ChangeAt Go.RowKit

theorem cells_byte : Try.prog.cellsOf 5 = 1 := by kernel_rfl
theorem bytesOf_byte : Try.prog.bytesOf 5 = 1 := by kernel_rfl

/-- A slice of bytes that came in. -/
theorem arg_bytes {H : Type} {enc : TypeId × Value → H} {W : World} {base : Nat} {v : Value} {d : DataW H} {p : List MemPlace} (hv : Value.okWide Try.prog W .any base 35 v)
    (h : DataW.Trod enc Try.prog W 0 (fun _ => true) true 35 v d p) {ts : List TypeId} {ds : List (DataW H)} (hsz : (DataW.weightsEach Try.prog ts ds).all (· ≤ reachBytes) = true) (j : Nat) (ht : ts[j]? = some 35) (hd : ds[j]? = some d) :
    ∃ zs, Reads W v zs ∧ zs.length ≤ 140737488355328 - 4096 ∧ ((d = .nil ∧ zs = []) ∨ ∃ el sp, d = .slice el sp ∧ el.length = zs.length) := by
  obtain ⟨a, len, cap, rfl⟩ := okWide_slice u_bytes hv
  obtain ⟨fuel, hf⟩ := h
  rcases open_ints u_bytes u_byte cells_byte hf with ⟨hcs, hx⟩ | ⟨x, l, c, zs, hcs, _, hl, hm, hz, hx, hcell, hwz⟩
  · simp [Value.cells] at hcs
    obtain ⟨rfl, rfl, rfl⟩ := hcs
    simp only [Prod.mk.injEq] at hx
    exact ⟨[], Reads.nil _, by simp, .inl ⟨hx.1, rfl⟩⟩
  · simp [Value.cells] at hcs
    obtain ⟨rfl, rfl, rfl⟩ := hcs
    simp at hz
    simp only [Prod.mk.injEq] at hx
    have hlen : (zs.take len).length = len := by simp; omega
    have hs := sized_slice hsz ht (by rw [hd, hx.1]) u_bytes
    rw [bytesOf_byte] at hs
    simp only [lits, List.length_map, List.length_take, List.length_drop, reachBytes] at hs
    refine ⟨zs.take len, ⟨some x, cap, by rw [hlen], by omega, fun h => by simp at h, ?_, ?_⟩, by omega, .inr ⟨_, _, hx.1, by simp [lits]⟩⟩
    · intro z hz'
      have := bounds_u8 (hwz z (List.mem_of_mem_take hz'))
      omega
    · intro hp
      rw [hlen] at hp
      obtain ⟨b, off, spot⟩ := x
      have hspot : spot = none := by
        have := World.cell?_spot (hcell 0 (by omega))
        simpa [Addr.add] using this
      subst hspot
      refine ⟨b, off, rfl, fun i hi => ?_⟩
      rw [hlen] at hi
      have := hcell i (by omega)
      rw [Addr.add_lit] at this
      rw [this]
      simp [List.getD, hi]

end Go.Proofs.Ytagkmfgoahbclaa

/- SHA-256 by definition, on lists of numbers, with no word of the program: the words' functions, the schedule, the rounds, the block step, what stands behind a text, the digest. -/
namespace Go.Proofs.Ytagkmfgoahbclaa
set_option maxRecDepth 20000
open Go.RowKit

/-- A sum of words. -/
def ad (x y : Int) : Int := (x + y) % 4294967296
/-- A word turned right. -/
def rot (x n : Int) : Int := bits .or .u32 (x / 2 ^ n.toNat) (x * 2 ^ (32 - n).toNat % 4294967296)
def xo (x y : Int) : Int := bits .xor .u32 x y
def sm0 (x : Int) : Int := xo (xo (rot x 7) (rot x 18)) (x / 8)
def sm1 (x : Int) : Int := xo (xo (rot x 17) (rot x 19)) (x / 1024)
def big0 (x : Int) : Int := xo (xo (rot x 2) (rot x 13)) (rot x 22)
def big1 (x : Int) : Int := xo (xo (rot x 6) (rot x 11)) (rot x 25)
def chs (e f g : Int) : Int := xo (bits .and .u32 e f) (bits .and .u32 (bits .xor .u32 4294967295 e) g)
def maj (a b c : Int) : Int := xo (xo (bits .and .u32 a b) (bits .and .u32 a c)) (bits .and .u32 b c)

/-- The words' number k of a block, the ones ahead being ws. -/
def nextWord (b ws : List Int) (k : Nat) : Int :=
  if k < 16 then b.getD (4 * k) 0 * 16777216 + b.getD (4 * k + 1) 0 * 65536 + b.getD (4 * k + 2) 0 * 256 + b.getD (4 * k + 3) 0
  else ad (ad (ad (sm1 (ws.getD (k - 2) 0)) (ws.getD (k - 7) 0)) (sm0 (ws.getD (k - 15) 0))) (ws.getD (k - 16) 0)
/-- The first k words of a block. -/
def sch (b : List Int) : Nat → List Int
  | 0 => []
  | k + 1 => sch b k ++ [nextWord b (sch b k) k]

theorem sch_length (b : List Int) : ∀ k, (sch b k).length = k
  | 0 => rfl
  | k + 1 => by simp [sch, sch_length b k]

theorem sch_get (b : List Int) (k : Nat) : (sch b (k + 1)).getD k 0 = nextWord b (sch b k) k := by
  have := sch_length b k
  simp [sch, List.getD, this]

theorem sch_get_le (b : List Int) (i : Nat) : ∀ k, i < k → (sch b k).getD i 0 = nextWord b (sch b i) i
  | k + 1, h => by
    by_cases e : i = k
    · subst e; exact sch_get b i
    · rw [← sch_get_le b i k (by omega)]
      have := sch_length b k
      simp [sch, List.getD, List.getElem?_append_left (show i < (sch b k).length by omega)]

/-- The constants of the rounds. -/
def ks : List Int := [1116352408, 1899447441, 3049323471, 3921009573, 961987163, 1508970993, 2453635748, 2870763221, 3624381080, 310598401, 607225278, 1426881987, 1925078388, 2162078206, 2614888103, 3248222580, 3835390401, 4022224774, 264347078, 604807628, 770255983, 1249150122, 1555081692, 1996064986, 2554220882, 2821834349, 2952996808, 3210313671, 3336571891, 3584528711, 113926993, 338241895, 666307205, 773529912, 1294757372, 1396182291, 1695183700, 1986661051, 2177026350, 2456956037, 2730485921, 2820302411, 3259730800, 3345764771, 3516065817, 3600352804, 4094571909, 275423344, 430227734, 506948616, 659060556, 883997877, 958139571, 1322822218, 1537002063, 1747873779, 1955562222, 2024104815, 2227730452, 2361852424, 2428436474, 2756734187, 3204031479, 3329325298]
/-- The words that every digest begins with. -/
def hs : List Int := [1779033703, 3144134277, 1013904242, 2773480762, 1359893119, 2600822924, 528734635, 1541459225]

/-- One round. -/
def rnd (k w : Int) : List Int → List Int
  | [a, b, c, d, e, f, g, h] =>
    let t1 := ad (ad (ad (ad h (big1 e)) (chs e f g)) k) w
    [ad t1 (ad (big0 a) (maj a b c)), a, b, c, ad d t1, e, f, g]
  | l => l
/-- The first k rounds. -/
def rds (ws v : List Int) : Nat → List Int
  | 0 => v
  | k + 1 => rnd (ks.getD k 0) (ws.getD k 0) (rds ws v k)

theorem eight {α : Type} (l : List α) (h : l.length = 8) : ∃ a b c d e f g i, l = [a, b, c, d, e, f, g, i] := by
  match l, h with
  | [a, b, c, d, e, f, g, i], _ => exact ⟨a, b, c, d, e, f, g, i, rfl⟩

theorem rnd_length (k w : Int) (l : List Int) (h : l.length = 8) : (rnd k w l).length = 8 := by
  obtain ⟨a, b, c, d, e, f, g, i, rfl⟩ := eight l h
  rfl
theorem rds_length (ws v : List Int) (h : v.length = 8) : ∀ k, (rds ws v k).length = 8
  | 0 => h
  | k + 1 => rnd_length _ _ _ (rds_length ws v h k)

/-- The block step. -/
def stp (h b : List Int) : List Int := List.zipWith ad h (rds (sch b 64) h 64)
theorem stp_length (h b : List Int) (hl : h.length = 8) : (stp h b).length = 8 := by
  simp [stp, rds_length _ _ hl, hl]

/-- The words behind the first n blocks of a text. -/
def eat (l : List Int) : Nat → List Int
  | 0 => hs
  | n + 1 => stp (eat l n) ((l.drop (64 * n)).take 64)
theorem eat_length (l : List Int) : ∀ n, (eat l n).length = 8
  | 0 => rfl
  | n + 1 => stp_length _ _ (eat_length l n)

theorem eat_append (l m : List Int) : ∀ n, 64 * n ≤ l.length → eat (l ++ m) n = eat l n
  | 0, _ => rfl
  | n + 1, h => by
    simp only [eat]
    rw [eat_append l m n (by omega), List.drop_append_of_le_length (by omega), List.take_append_of_le_length (by rw [List.length_drop]; omega)]

/-- A number as eight bytes, the highest first: the first k of them. -/
def be8 (n : Int) : Nat → List Int
  | 0 => []
  | k + 1 => be8 n k ++ [n / 2 ^ (8 * (7 - k)) % 256]
theorem be8_length (n : Int) : ∀ k, (be8 n k).length = k
  | 0 => rfl
  | k + 1 => by simp [be8, be8_length n k]
theorem be8_bytes (n : Int) : ∀ k, Bytes (be8 n k)
  | 0 => Bytes.nil
  | k + 1 => (be8_bytes n k).append (by intro z hz; simp at hz; subst hz; omega)

/-- What stands behind a text of n bytes. -/
def pad (n : Nat) : List Int := 128 :: List.replicate ((119 - n % 64) % 64) 0 ++ be8 (8 * n) 8
theorem pad_length (n : Nat) : (pad n).length = 9 + (119 - n % 64) % 64 := by
  simp [pad, be8_length]; omega
theorem pad_whole (n : Nat) : (n + (pad n).length) % 64 = 0 := by
  rw [pad_length]; omega
theorem pad_bytes (n : Nat) : Bytes (pad n) := by
  intro z hz
  simp only [pad, List.cons_append, List.mem_cons, List.mem_append] at hz
  rcases hz with rfl | hz | hz
  · omega
  · rw [List.eq_of_mem_replicate hz]; omega
  · exact be8_bytes _ _ z hz

/-- Eight words as bytes. -/
def out (v : List Int) : List Int := v.flatMap fun x => [x / 16777216 % 256, x / 65536 % 256, x / 256 % 256, x % 256]
theorem out_bytes (v : List Int) : Bytes (out v) := by
  intro z hz
  simp only [out, List.mem_flatMap] at hz
  obtain ⟨x, _, hz⟩ := hz
  simp at hz
  omega
theorem out_length (v : List Int) : (out v).length = 4 * v.length := by
  induction v with
  | nil => rfl
  | cons a v ih =>
    have : out (a :: v) = [a / 16777216 % 256, a / 65536 % 256, a / 256 % 256, a % 256] ++ out v := by simp [out]
    rw [this, List.length_append, ih]; simp; omega

/-- The digest of a text. -/
def dig (l : List Int) : List Int := out (eat (l ++ pad l.length) ((l.length + (pad l.length).length) / 64))
theorem dig_bytes (l : List Int) : Bytes (dig l) := out_bytes _
theorem dig_length (l : List Int) : (dig l).length = 32 := by rw [dig, out_length, eat_length]

end Go.Proofs.Ytagkmfgoahbclaa
