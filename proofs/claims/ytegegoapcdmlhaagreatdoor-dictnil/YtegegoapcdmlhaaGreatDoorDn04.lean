/- SHA-256 by definition, on lists of numbers, with no word of the program: the words' functions, the schedule, the rounds, the block step, what stands behind a text, the digest. -/
import Derived.Test.YtegegoapcdmlhaaGreatDoorDn01
import Derived.Test.YtegegoapcdmlhaaGreatDoorDn02
import Derived.Deep.MidRow
import Derived.Deep.WholeRow
import Derived.Laws.ResultCell
import Derived.ChangeKeysEq
import Derived.Laws.StructEq
import Derived.BigQuiet
import Derived.Deep.QuietTactic
namespace Go.Proofs.YtegegoapcdmlhaaGreatDoor
set_option maxRecDepth 20000
open Go.RowKit

/-- A sum of words. -/
def ad (x y : Int) : Int := (x + y) % 4294967296
/-- A word turned right. -/
def rot (x n : Int) : Int := bits .or .u32 (x / 2 ^ n.toNat) (x * 2 ^ (32 - n).toNat % 4294967296)
def xo (x y : Int) : Int := bits .xor .u32 x y
def sm0 (x : Int) : Int := xo (xo (rot x 7) (rot x 18)) (x / 8)
def sm1 (x : Int) : Int := xo (xo (rot x 17) (rot x 19)) (x / 1024)
def big0 (x : Int) : Int := xo (xo (rot x 2) (rot x 13)) (rot x 22)
def big1 (x : Int) : Int := xo (xo (rot x 6) (rot x 11)) (rot x 25)
def chs (e f g : Int) : Int := xo (bits .and .u32 e f) (bits .and .u32 (bits .xor .u32 4294967295 e) g)
def maj (a b c : Int) : Int := xo (xo (bits .and .u32 a b) (bits .and .u32 a c)) (bits .and .u32 b c)

/-- The words' number k of a block, the ones ahead being ws. -/
def nextWord (b ws : List Int) (k : Nat) : Int :=
  if k < 16 then b.getD (4 * k) 0 * 16777216 + b.getD (4 * k + 1) 0 * 65536 + b.getD (4 * k + 2) 0 * 256 + b.getD (4 * k + 3) 0
  else ad (ad (ad (sm1 (ws.getD (k - 2) 0)) (ws.getD (k - 7) 0)) (sm0 (ws.getD (k - 15) 0))) (ws.getD (k - 16) 0)
/-- The first k words of a block. -/
def sch (b : List Int) : Nat → List Int
  | 0 => []
  | k + 1 => sch b k ++ [nextWord b (sch b k) k]

theorem sch_length (b : List Int) : ∀ k, (sch b k).length = k
  | 0 => rfl
  | k + 1 => by simp [sch, sch_length b k]

theorem sch_get (b : List Int) (k : Nat) : (sch b (k + 1)).getD k 0 = nextWord b (sch b k) k := by
  have := sch_length b k
  simp [sch, List.getD, this]

theorem sch_get_le (b : List Int) (i : Nat) : ∀ k, i < k → (sch b k).getD i 0 = nextWord b (sch b i) i
  | k + 1, h => by
    by_cases e : i = k
    · subst e; exact sch_get b i
    · rw [← sch_get_le b i k (by omega)]
      have := sch_length b k
      simp [sch, List.getD, List.getElem?_append_left (show i < (sch b k).length by omega)]

/-- The constants of the rounds. -/
def ks : List Int := [1116352408, 1899447441, 3049323471, 3921009573, 961987163, 1508970993, 2453635748, 2870763221, 3624381080, 310598401, 607225278, 1426881987, 1925078388, 2162078206, 2614888103, 3248222580, 3835390401, 4022224774, 264347078, 604807628, 770255983, 1249150122, 1555081692, 1996064986, 2554220882, 2821834349, 2952996808, 3210313671, 3336571891, 3584528711, 113926993, 338241895, 666307205, 773529912, 1294757372, 1396182291, 1695183700, 1986661051, 2177026350, 2456956037, 2730485921, 2820302411, 3259730800, 3345764771, 3516065817, 3600352804, 4094571909, 275423344, 430227734, 506948616, 659060556, 883997877, 958139571, 1322822218, 1537002063, 1747873779, 1955562222, 2024104815, 2227730452, 2361852424, 2428436474, 2756734187, 3204031479, 3329325298]
/-- The words that every digest begins with. -/
def hs : List Int := [1779033703, 3144134277, 1013904242, 2773480762, 1359893119, 2600822924, 528734635, 1541459225]

/-- One round. -/
def rnd (k w : Int) : List Int → List Int
  | [a, b, c, d, e, f, g, h] =>
    let t1 := ad (ad (ad (ad h (big1 e)) (chs e f g)) k) w
    [ad t1 (ad (big0 a) (maj a b c)), a, b, c, ad d t1, e, f, g]
  | l => l
/-- The first k rounds. -/
def rds (ws v : List Int) : Nat → List Int
  | 0 => v
  | k + 1 => rnd (ks.getD k 0) (ws.getD k 0) (rds ws v k)

theorem eight {α : Type} (l : List α) (h : l.length = 8) : ∃ a b c d e f g i, l = [a, b, c, d, e, f, g, i] := by
  match l, h with
  | [a, b, c, d, e, f, g, i], _ => exact ⟨a, b, c, d, e, f, g, i, rfl⟩

theorem rnd_length (k w : Int) (l : List Int) (h : l.length = 8) : (rnd k w l).length = 8 := by
  obtain ⟨a, b, c, d, e, f, g, i, rfl⟩ := eight l h
  rfl
theorem rds_length (ws v : List Int) (h : v.length = 8) : ∀ k, (rds ws v k).length = 8
  | 0 => h
  | k + 1 => rnd_length _ _ _ (rds_length ws v h k)

/-- The block step. -/
def stp (h b : List Int) : List Int := List.zipWith ad h (rds (sch b 64) h 64)
theorem stp_length (h b : List Int) (hl : h.length = 8) : (stp h b).length = 8 := by
  simp [stp, rds_length _ _ hl, hl]

/-- The words behind the first n blocks of a text. -/
def eat (l : List Int) : Nat → List Int
  | 0 => hs
  | n + 1 => stp (eat l n) ((l.drop (64 * n)).take 64)
theorem eat_length (l : List Int) : ∀ n, (eat l n).length = 8
  | 0 => rfl
  | n + 1 => stp_length _ _ (eat_length l n)

theorem eat_append (l m : List Int) : ∀ n, 64 * n ≤ l.length → eat (l ++ m) n = eat l n
  | 0, _ => rfl
  | n + 1, h => by
    simp only [eat]
    rw [eat_append l m n (by omega), List.drop_append_of_le_length (by omega), List.take_append_of_le_length (by rw [List.length_drop]; omega)]

/-- A number as eight bytes, the highest first: the first k of them. -/
def be8 (n : Int) : Nat → List Int
  | 0 => []
  | k + 1 => be8 n k ++ [n / 2 ^ (8 * (7 - k)) % 256]
theorem be8_length (n : Int) : ∀ k, (be8 n k).length = k
  | 0 => rfl
  | k + 1 => by simp [be8, be8_length n k]
theorem be8_bytes (n : Int) : ∀ k, Bytes (be8 n k)
  | 0 => Bytes.nil
  | k + 1 => (be8_bytes n k).append (by intro z hz; simp at hz; subst hz; omega)

/-- What stands behind a text of n bytes. -/
def pad (n : Nat) : List Int := 128 :: List.replicate ((119 - n % 64) % 64) 0 ++ be8 (8 * n) 8
theorem pad_length (n : Nat) : (pad n).length = 9 + (119 - n % 64) % 64 := by
  simp [pad, be8_length]; omega
theorem pad_whole (n : Nat) : (n + (pad n).length) % 64 = 0 := by
  rw [pad_length]; omega
theorem pad_bytes (n : Nat) : Bytes (pad n) := by
  intro z hz
  simp only [pad, List.cons_append, List.mem_cons, List.mem_append] at hz
  rcases hz with rfl | hz | hz
  · omega
  · rw [List.eq_of_mem_replicate hz]; omega
  · exact be8_bytes _ _ z hz

/-- Eight words as bytes. -/
def out (v : List Int) : List Int := v.flatMap fun x => [x / 16777216 % 256, x / 65536 % 256, x / 256 % 256, x % 256]
theorem out_bytes (v : List Int) : Bytes (out v) := by
  intro z hz
  simp only [out, List.mem_flatMap] at hz
  obtain ⟨x, _, hz⟩ := hz
  simp at hz
  omega
theorem out_length (v : List Int) : (out v).length = 4 * v.length := by
  induction v with
  | nil => rfl
  | cons a v ih =>
    have : out (a :: v) = [a / 16777216 % 256, a / 65536 % 256, a / 256 % 256, a % 256] ++ out v := by simp [out]
    rw [this, List.length_append, ih]; simp; omega

/-- The digest of a text. -/
def dig (l : List Int) : List Int := out (eat (l ++ pad l.length) ((l.length + (pad l.length).length) / 64))
theorem dig_bytes (l : List Int) : Bytes (dig l) := out_bytes _
theorem dig_length (l : List Int) : (dig l).length = 32 := by rw [dig, out_length, eat_length]

end Go.Proofs.YtegegoapcdmlhaaGreatDoor

/- Arrays of words in memory: blocks whose cells are known whole. -/
namespace Go.Proofs.YtegegoapcdmlhaaGreatDoor
set_option maxRecDepth 20000
open Go.RowKit

def U (zs : List Int) : Array Value := (zs.map (Value.int .u32)).toArray
theorem U_size (zs : List Int) : (U zs).size = zs.length := by simp [U]
theorem U_get (zs : List Int) (i : Nat) (h : i < zs.length) : (U zs)[i]? = some (.int .u32 (zs.getD i 0)) := by simp [U, List.getD, h]
theorem U_toList (zs : List Int) : (U zs).toList = zs.map (Value.int .u32) := by simp [U]
theorem U_set (zs : List Int) (i : Nat) (z : Int) : (U zs).setIfInBounds i (.int .u32 z) = U (zs.set i z) := by
  apply Array.ext'
  simp [U, List.map_set]
theorem U_one (zs : List Int) : (U zs).all (·.oneCell') = true := Array.all_eq_true_iff_forall_mem.2 (fun v hv => by
  simp only [U, List.mem_toArray, List.mem_map] at hv
  obtain ⟨z, _, rfl⟩ := hv
  rfl)
theorem B_one (zs : List Int) : (B zs).all (·.oneCell') = true := Array.all_eq_true_iff_forall_mem.2 (fun v hv => by
  simp only [B, List.mem_toArray, List.mem_map] at hv
  obtain ⟨z, _, rfl⟩ := hv
  rfl)

theorem Blk.wcell {w : World} {g : Nat} {t : TypeId} {zs : List Int} (h : Blk w g t (U zs)) (i : Nat) (hi : i < zs.length) : w.cell? ⟨g, i, none⟩ = some (.int .u32 (zs.getD i 0)) := by
  rw [h.cell, U_get zs i hi]
theorem Blk.bcell {w : World} {g : Nat} {t : TypeId} {zs : List Int} (h : Blk w g t (B zs)) (i : Nat) (hi : i < zs.length) : w.cell? ⟨g, i, none⟩ = some (.int .u8 (zs.getD i 0)) := by
  rw [h.cell, B_get zs i hi]

theorem zero_w64 : ∀ w, (zeroValue 334).run Tryz.prog w = .ok (.agg (U (List.replicate 64 0))) w := Tryz.zeroValue334

theorem zero_w8 : ∀ w, (zeroValue 313).run Tryz.prog w = .ok (.agg (U (List.replicate 8 0))) w := Tryz.zeroValue313

theorem zero_b32 : ∀ w, (zeroValue 33).run Tryz.prog w = .ok (.agg (B (List.replicate 32 0))) w := Tryz.zeroValue33

theorem Blk.eight {w : World} {g : Nat} {t : TypeId} {a b c d e f k l : Int} (h : Blk w g t (U [a, b, c, d, e, f, k, l])) :
    w.cell? ⟨g, 0, none⟩ = some (.int .u32 a) ∧ w.cell? ⟨g, 1, none⟩ = some (.int .u32 b) ∧ w.cell? ⟨g, 2, none⟩ = some (.int .u32 c) ∧ w.cell? ⟨g, 3, none⟩ = some (.int .u32 d) ∧ w.cell? ⟨g, 4, none⟩ = some (.int .u32 e) ∧ w.cell? ⟨g, 5, none⟩ = some (.int .u32 f) ∧ w.cell? ⟨g, 6, none⟩ = some (.int .u32 k) ∧ w.cell? ⟨g, 7, none⟩ = some (.int .u32 l) :=
  ⟨h.wcell 0 (by simp), h.wcell 1 (by simp), h.wcell 2 (by simp), h.wcell 3 (by simp), h.wcell 4 (by simp), h.wcell 5 (by simp), h.wcell 6 (by simp), h.wcell 7 (by simp)⟩

/-- An array's element, the array by value. -/
theorem index_w8 (v : List Int) (k : Nat) (hv : v.length = 8) (hk : k < 8) (w : World) : (Instr.index 313 (.agg (U v)) (.int .i64 (k : Int))).run Tryz.prog w = .ok (.int .u32 (v.getD k 0)) w := by
  have hg := U_get v k (by omega)
  simp [Instr.index, asIntOf, part, hg]
  omega

theorem size_w64 : (Tryz.prog.info? 334).map (·.size) = some 64 := by kernel_rfl

theorem size_w8 : (Tryz.prog.info? 313).map (·.size) = some 8 := by kernel_rfl

theorem size_b64 : (Tryz.prog.info? 314).map (·.size) = some 64 := by kernel_rfl

theorem size_b32 : (Tryz.prog.info? 33).map (·.size) = some 32 := by kernel_rfl

end Go.Proofs.YtegegoapcdmlhaaGreatDoor

/- Arrays by value: laws for their whole loads, stores and literals beside ShaMem's, and arrays held against each other. -/
namespace Go.Proofs.YtegegoapcdmlhaaGreatDoor
set_option maxRecDepth 20000
open Go.RowKit

theorem results_row_tmp {fn : Func} {p u : Tmp} {ty : TypeId} (h : fn.results = #[.cell p ty, .tmp u]) (tmps : Array Value) (w : World) (g : Nat) (cs : Array Value) (n : Nat) (el : TypeId) (x : Value) (hp : tmps.getD p undef = .pointer (some ⟨g, 0, none⟩)) (hx : tmps.getD u undef = x) (hg : Blk w g ty cs)
    (hu : Tryz.prog.underlying ty = some (.array n el)) (hi : (Tryz.prog.info? ty).map (·.size) = some cs.size) :
    (results fn tmps).run Tryz.prog w = .ok (.tuple #[.agg cs, x]) w := by
  rw [results_cell_tmp h, hp, hx]
  simp [asAddr, run_loadVar_row w g ty ty cs (0, 0) _ hg hu rfl hi]

/-- load of a whole array, where its guard says yes. -/
theorem wpList_ldg {ops : Array Oper} {rest : List Oper} {op : Oper} {a : Act} {Q : Exit → Act → World → Prop} (w : World) (hgd : Region.wanted op (yielded ops a.tmps) = true) (x : Operand) (ty : TypeId) (ho : op.op = .load ty x)
    (g : Nat) (cs : Array Value) (hx : a.eval x = .pointer (some ⟨g, 0, none⟩)) (h : Blk w g ty cs) (n : Nat) (e : TypeId) (hu : Tryz.prog.underlying ty = some (.array n e)) (hi : (Tryz.prog.info? ty).map (·.size) = some cs.size)
    (hk : wpList Tryz.prog ops Q rest (a.put op.dst (.agg cs)) w) : wpList Tryz.prog ops Q (op :: rest) a w := by
  refine BigFrame.wpList_want hgd fun K hK => ?_
  unfold Oper.wp execOp
  simp only [ho, hx, Instr.loadAt, Instr.sureAddr, Sem.run_bind, Sem.run_pure, Result.andThen_ok, h.load n e hu hi]
  exact hK _ _ hk

theorem cellsOf_byte : Tryz.prog.cellsOf 5 = 1 := by kernel_rfl

theorem items_eq {e : TypeId} {k : IntKind} (he : Tryz.prog.underlying e = some (.int k)) (hagg : ∀ w, (isAgg e).run Tryz.prog w = .ok false w) (d : Nat) (zs us : List Int) (xs ys : Array Value) (hx : ∀ i, i < zs.length → xs[i]? = some (.int k (zs.getD i 0))) (hy : ∀ i, i < us.length → ys[i]? = some (.int k (us.getD i 0))) (w : World) :
    ∀ is : List Nat, (∀ i ∈ is, i < zs.length ∧ i < us.length) → (Op.eqItems (d + 1) e 1 xs ys is).run Tryz.prog w = .ok (is.all fun i => zs.getD i 0 == us.getD i 0) w
  | [], _ => by simp [Op.eqItems]
  | i :: is, h => by
    have h1 := hx i (h i (by simp)).1
    have h2 := hy i (h i (by simp)).2
    have hp : (part e xs (i * 1)).run Tryz.prog w = .ok (.int k (zs.getD i 0)) w := by
      rw [Nat.mul_one]
      unfold part
      rw [Sem.run_bind, hagg w]
      simp only [Result.andThen_ok, Bool.false_eq_true, if_false, h1, Sem.run_pure]
    have hq : (part e ys (i * 1)).run Tryz.prog w = .ok (.int k (us.getD i 0)) w := by
      rw [Nat.mul_one]
      unfold part
      rw [Sem.run_bind, hagg w]
      simp only [Result.andThen_ok, Bool.false_eq_true, if_false, h2, Sem.run_pure]
    have he2 := run_equalIn_int (P := Tryz.prog) (w := w) d e k k (zs.getD i 0) (us.getD i 0) he
    have ih := items_eq he hagg d zs us xs ys hx hy w is (fun j hj => h j (by simp [hj]))
    simp only [Op.eqItems, Sem.run_bind, hp, hq, Result.andThen_ok, he2, List.all_cons]
    by_cases hb : zs.getD i 0 == us.getD i 0
    · rw [hb]
      simp only [Bool.not_true, Bool.false_eq_true, if_false, Bool.true_and]
      exact ih
    · rw [Bool.eq_false_iff.2 hb]
      simp

theorem all_same (n : Nat) (xs ys : List Int) (hx : xs.length = n) (hy : ys.length = n) : ((List.range n).all fun i => xs.getD i 0 == ys.getD i 0) = decide (xs = ys) := by
  rw [Bool.eq_iff_iff, List.all_eq_true, decide_eq_true_iff]
  constructor
  · intro h
    apply List.ext_getElem (by omega)
    intro i h1 h2
    have := h i (by simpa [hx] using h1)
    simpa [List.getD, h1, h2] using this
  · rintro rfl i _
    simp

theorem arr_eq {t : TypeId} (ht : Tryz.prog.underlying t = some (.array 32 5)) (xs ys : List Int) (hx : xs.length = 32) (hy : ys.length = 32) (w : World) : (Op.equalIn 10000 t (.agg (B xs)) (.agg (B ys))).run Tryz.prog w = .ok (decide (xs = ys)) w := by
  obtain ⟨i, hi⟩ : ∃ i, Tryz.prog.info? 5 = some i := ⟨_, rfl⟩
  rw [show (10000 : Nat) = 9998 + 1 + 1 from rfl, run_equalIn_array (P := Tryz.prog) w (9998 + 1) (B xs) (B ys) ht hi, cellsOf_byte,
    items_eq u_byte Tryz.isAgg5 9998 xs ys (B xs) (B ys) (fun i hi => B_get xs i hi) (fun i hi => B_get ys i hi) w _ (fun i hi => by rw [hx, hy]; simpa using hi), all_same 32 xs ys hx hy]

theorem hash_eq (xs ys : List Int) (hx : xs.length = 32) (hy : ys.length = 32) (w : World) : (Op.equalIn 10000 39 (.agg (B xs)) (.agg (B ys))).run Tryz.prog w = .ok (decide (xs = ys)) w := arr_eq Tryz.underlying39 xs ys hx hy w

theorem path_eq (xs ys : List Int) (hx : xs.length = 32) (hy : ys.length = 32) (w : World) : (Op.equalIn 10000 34 (.agg (B xs)) (.agg (B ys))).run Tryz.prog w = .ok (decide (xs = ys)) w := arr_eq Tryz.underlying34 xs ys hx hy w

theorem b32_eq (xs ys : List Int) (hx : xs.length = 32) (hy : ys.length = 32) (w : World) : (Op.equalIn 10000 33 (.agg (B xs)) (.agg (B ys))).run Tryz.prog w = .ok (decide (xs = ys)) w := arr_eq Tryz.underlying33 xs ys hx hy w

end Go.Proofs.YtegegoapcdmlhaaGreatDoor
