/- octet.Compare and the document's Compare, as contracts: both tell the order of two lists of bytes. -/
import Derived.Test.YtpihigcnoifcfaaGreatDoorVw01
import Derived.Lib.Bytealg
import Derived.Deep.QuietTactic
import Derived.BigQuiet
import Derived.Laws.BitsAllLaws
namespace Go.Proofs.YtpihigcnoifcfaaGreatDoor
set_option maxRecDepth 20000
open Go.RowKit

/-- The order of two lists, the first unlike number telling; a beginning ahead of what goes on. -/
def cmp : List Int → List Int → Int
  | [], [] => 0
  | [], _ :: _ => -1
  | _ :: _, [] => 1
  | a :: r, b :: s => if a < b then -1 else if b < a then 1 else cmp r s

theorem cmp_bytes : ∀ (xs ys : List Int), Bytes xs → Bytes ys → Lib.compareBytes (xs.map fun n => UInt8.ofNat n.toNat) (ys.map fun n => UInt8.ofNat n.toNat) = cmp xs ys
  | [], [], _, _ => rfl
  | [], _ :: _, _, _ => rfl
  | _ :: _, [], _, _ => rfl
  | a :: r, b :: s, ha, hb => by
    have h1 := ha a (by simp)
    have h2 := hb b (by simp)
    have ih := cmp_bytes r s (fun z hz => ha z (by simp [hz])) (fun z hz => hb z (by simp [hz]))
    have e : ∀ x y : Int, 0 ≤ x ∧ x ≤ 255 → 0 ≤ y ∧ y ≤ 255 → (UInt8.ofNat x.toNat < UInt8.ofNat y.toNat ↔ x < y) := by
      intro x y hx hy
      rw [UInt8.lt_iff_toNat_lt, UInt8.toNat_ofNat', UInt8.toNat_ofNat']
      omega
    simp only [List.map_cons, Lib.compareBytes, cmp, ih, e a b h1 h2, e b a h2 h1]

theorem load_bytes : ∀ (zs : List Int) (b off : Nat) (acc : ByteArray) (w : World), (∀ i, i < zs.length → w.cell? ⟨b, off + i, none⟩ = some (.int .u8 (zs.getD i 0))) →
    (Extern.Bytes.loadBytes ⟨b, off, none⟩ zs.length acc).run Tryz.prog w = .ok (zs.foldl (fun r n => r.push (n.toNat.toUInt8)) acc) w
  | [], _, _, _, _, _ => by simp [Extern.Bytes.loadBytes]
  | z :: zs, b, off, acc, w, h => by
    have h0 := h 0 (by simp)
    simp only [Nat.add_zero, List.getD_cons_zero] at h0
    have hl : (load ⟨b, off, none⟩).run Tryz.prog w = .ok (.int .u8 z) w := by
      simp [go_sem, h0]
    have ih := load_bytes zs b (off + 1) (acc.push z.toNat.toUInt8) w (fun i hi => by
      have := h (i + 1) (by simpa using hi)
      rw [show off + 1 + i = off + (i + 1) by omega]
      simpa using this)
    simp only [List.length_cons, Extern.Bytes.loadBytes, Sem.run_bind, hl, Result.andThen_ok, Addr.add_lit, ih, List.foldl_cons]

theorem bytesOf_reads {w : World} {v : Value} {zs : List Int} (h : Reads w v zs) : (Extern.Bytes.bytesOf v).run Tryz.prog w = .ok (strOfNums zs) w := by
  obtain ⟨a, c, rfl, h1, h2, h3, h4⟩ := h
  have hfold : zs.foldl (fun r n => r.push (n.toNat.toUInt8)) ByteArray.empty = strOfNums zs := by
    have := foldl_push_bytes zs ByteArray.empty
    have e : (fun (r : ByteArray) (n : Int) => r.push (n.toNat.toUInt8)) = fun r n => r.push (UInt8.ofNat n.toNat) := rfl
    rw [e, this]
    simp [strOfNums, ByteArray.empty, ByteArray.emptyWithCapacity]
    rfl
  cases a with
  | none =>
    have hz : zs = [] := by
      by_cases hz : zs = []
      · exact hz
      · obtain ⟨_, _, e, _⟩ := h4 (List.length_pos_iff.2 hz)
        cases e
    subst hz
    rfl
  | some x =>
    by_cases hz : zs = []
    · subst hz
      rfl
    · obtain ⟨b, off, e, hc⟩ := h4 (List.length_pos_iff.2 hz)
      injection e with e
      subst e
      show (Extern.Bytes.loadBytes ⟨b, off, none⟩ zs.length .empty).run Tryz.prog w = _
      rw [load_bytes zs b off _ w hc, hfold]

theorem call_cmp {w : World} {x y : Value} {xs ys : List Int} (hx : Reads w x xs) (hy : Reads w y ys) : (callFunc 100 #[x, y]).run Tryz.prog w = .ok (.value (.int .i64 (cmp xs ys))) w := by
  have b1 : Bytes xs := by obtain ⟨_, _, _, _, _, h, _⟩ := hx; exact h
  have b2 : Bytes ys := by obtain ⟨_, _, _, _, _, h, _⟩ := hy; exact h
  rw [run_callFunc_extern Tryz.func100 (by kernel_rfl) (by kernel_rfl) (by kernel_rfl) (e := Extern.BytealgCompare.compare) (by kernel_rfl)]
  have e : Extern.BytealgCompare.compare #[x, y] = (do pure (goInt (Extern.BytealgCompare.cmp (← Extern.Bytes.bytesOf x) (← Extern.Bytes.bytesOf y)))) := rfl
  rw [e]
  simp only [Sem.run_bind, bytesOf_reads hx, bytesOf_reads hy, Result.andThen_ok, Sem.run_pure]
  rw [Lib.cmp_eq, strOfNums_data, strOfNums_data, cmp_bytes xs ys b1 b2]
  rfl

set_option maxHeartbeats 400000 in
theorem bcompare_any (x y : Value) (xs ys : List Int) (w : World) (hx : Reads w x xs) (hy : Reads w y ys) :
    Calls Tryz.prog 90 #[x, y] w fun e w' => e = .returned (.int .i64 (cmp xs ys)) ∧ w' = w := by
  have hc := call_cmp hx hy
  clear hx hy
  generalize cmp xs ys = r at *
  go_enter Tryz.func90, Tryz.ntmps90
  go_wp2
  go_ret
  exact ⟨rfl, rfl⟩

set_option maxHeartbeats 400000 in
theorem compare_any (x y : Value) (xs ys : List Int) (w : World) (hx : Reads w x xs) (hy : Reads w y ys) :
    Calls Tryz.prog 62 #[x, y] w fun e w' => e = .returned (.int .i64 (cmp xs ys)) ∧ w' = w := by
  have H := hidden (bcompare_any x y xs ys w hx hy)
  clear hx hy
  go_enter Tryz.func62, Tryz.ntmps62
  go_wp2_with (go_at_call 90; refine H.out.mono ?_; rintro e w' ⟨rfl, rfl⟩)
  go_ret
  exact ⟨rfl, rfl⟩

theorem drewN_add (w : World) (a b : Nat) : (w.drewN a).drewN b = w.drewN (a + b) := by
  simp [World.drewN, Nat.add_assoc]
theorem drew2 (w : World) (a b : Nat) : ∃ d, (w.drewN a).drewN b = w.drewN d := ⟨_, drewN_add w a b⟩
theorem drew3 (w : World) (a b c : Nat) : ∃ d, ((w.drewN a).drewN b).drewN c = w.drewN d := ⟨_, by rw [drewN_add, drewN_add]⟩

theorem drop_getD (xs : List Int) (k : Nat) (h : k < xs.length) : xs.drop k = xs.getD k 0 :: xs.drop (k + 1) := by
  rw [List.drop_eq_getElem_cons h]; simp [List.getD, h]

end Go.Proofs.YtpihigcnoifcfaaGreatDoor

/- Keys by their bits, with no word of the program: what it is to be a key with a bit turned, filled up, the next one, and which stands ahead. -/
namespace Go.Proofs.YtpihigcnoifcfaaGreatDoor
set_option maxRecDepth 20000
open Go.RowKit

/-- Bit k of a byte, the heaviest first. -/
def bt (x : Int) (k : Nat) : Int := x / 2 ^ (7 - k) % 2
/-- Bit d of a key. -/
def kb (xs : List Int) (d : Nat) : Int := bt (xs.getD (d / 8) 0) (d % 8)
/-- A key: 32 bytes. -/
def Key (xs : List Int) : Prop := xs.length = 32 ∧ Bytes xs

theorem bt_two (x : Int) (k : Nat) : bt x k = 0 ∨ bt x k = 1 := by
  unfold bt
  generalize x / 2 ^ (7 - k) = y
  omega
theorem kb_two (xs : List Int) (d : Nat) : kb xs d = 0 ∨ kb xs d = 1 := bt_two _ _

theorem byte_ext (x y : Int) (hx : 0 ≤ x ∧ x ≤ 255) (hy : 0 ≤ y ∧ y ≤ 255) (h : ∀ k, k < 8 → bt x k = bt y k) : x = y := by
  have h0 := h 0 (by omega)
  have h1 := h 1 (by omega)
  have h2 := h 2 (by omega)
  have h3 := h 3 (by omega)
  have h4 := h 4 (by omega)
  have h5 := h 5 (by omega)
  have h6 := h 6 (by omega)
  have h7 := h 7 (by omega)
  simp only [bt, Nat.reduceSub, Int.reducePow] at h0 h1 h2 h3 h4 h5 h6 h7
  omega

theorem Key.byte {xs : List Int} (h : Key xs) (i : Nat) : 0 ≤ xs.getD i 0 ∧ xs.getD i 0 ≤ 255 := h.2.getD i

theorem key_ext {xs ys : List Int} (hx : Key xs) (hy : Key ys) (h : ∀ d, d < 256 → kb xs d = kb ys d) : xs = ys := by
  apply List.ext_getElem (by rw [hx.1, hy.1])
  intro i h1 h2
  have e : xs.getD i 0 = ys.getD i 0 := by
    refine byte_ext _ _ (hx.byte i) (hy.byte i) fun k hk => ?_
    have hi : i < 32 := by rw [← hx.1]; exact h1
    have := h (8 * i + k) (by omega)
    unfold kb at this
    rw [show (8 * i + k) / 8 = i by omega, show (8 * i + k) % 8 = k by omega] at this
    exact this
  simpa [List.getD, h1, h2] using e

theorem Bytes.set {zs : List Int} (h : Bytes zs) (i : Nat) (z : Int) (hz : 0 ≤ z ∧ z ≤ 255) : Bytes (zs.set i z) := fun u hu => by
  rcases List.mem_or_eq_of_mem_set hu with h1 | rfl
  · exact h u h1
  · exact hz
theorem Key.set {xs : List Int} (h : Key xs) (i : Nat) (z : Int) (hz : 0 ≤ z ∧ z ≤ 255) : Key (xs.set i z) := ⟨by rw [List.length_set]; exact h.1, h.2.set i z hz⟩

theorem key_getD_set (xs : List Int) (i j : Nat) (z : Int) (hi : i < xs.length) : (xs.set i z).getD j 0 = if j = i then z else xs.getD j 0 := by
  by_cases e : j = i
  · subst e
    simp [List.getD, hi]
  · rw [if_neg e]
    simp [List.getD, List.getElem?_set_ne (Ne.symm e)]

theorem kb_set (xs : List Int) (i d : Nat) (z : Int) (hi : i < xs.length) : kb (xs.set i z) d = if d / 8 = i then bt z (d % 8) else kb xs d := by
  unfold kb
  rw [key_getD_set xs i _ z hi]
  by_cases e : d / 8 = i
  · rw [if_pos e, if_pos e]
  · rw [if_neg e, if_neg e]

/-- ys is xs with its bit d as said. -/
def IsSet (xs : List Int) (d : Nat) (b : Int) (ys : List Int) : Prop := Key ys ∧ ∀ j, j < 256 → kb ys j = if j = d then b else kb xs j
/-- ys is xs with its bit d turned. -/
def IsFlip (xs : List Int) (d : Nat) (ys : List Int) : Prop := Key ys ∧ ∀ j, j < 256 → kb ys j = if j = d then 1 - kb xs j else kb xs j
/-- ys has xs' first d bits, all others as said. -/
def IsFill (xs : List Int) (d : Nat) (b : Int) (ys : List Int) : Prop := Key ys ∧ ∀ j, j < 256 → kb ys j = if j < d then kb xs j else b
/-- All bits are 1. -/
def IsLast (xs : List Int) : Prop := ∀ j, j < 256 → kb xs j = 1
/-- ys is the key directly behind xs. -/
def IsNext (xs ys : List Int) : Prop := Key ys ∧ ∃ k, k < 256 ∧ kb xs k = 0 ∧ kb ys k = 1 ∧ (∀ j, j < k → kb ys j = kb xs j) ∧ ∀ j, k < j → j < 256 → kb xs j = 1 ∧ kb ys j = 0
/-- c is how many first bits are the same. -/
def IsCommon (xs ys : List Int) (c : Nat) : Prop := c ≤ 256 ∧ (∀ j, j < c → kb xs j = kb ys j) ∧ (c < 256 → kb xs c ≠ kb ys c)
/-- xs stands ahead of ys: at the first unlike bit it has 0. -/
def Ahead (xs ys : List Int) : Prop := ∃ c, c < 256 ∧ (∀ j, j < c → kb xs j = kb ys j) ∧ kb xs c = 0 ∧ kb ys c = 1

theorem IsSet.one {xs ys zs : List Int} {d : Nat} {b : Int} (h : IsSet xs d b ys) (k : IsSet xs d b zs) : ys = zs := key_ext h.1 k.1 fun j hj => by rw [h.2 j hj, k.2 j hj]
theorem IsFlip.one {xs ys zs : List Int} {d : Nat} (h : IsFlip xs d ys) (k : IsFlip xs d zs) : ys = zs := key_ext h.1 k.1 fun j hj => by rw [h.2 j hj, k.2 j hj]
theorem IsFill.one {xs ys zs : List Int} {d : Nat} {b : Int} (h : IsFill xs d b ys) (k : IsFill xs d b zs) : ys = zs := key_ext h.1 k.1 fun j hj => by rw [h.2 j hj, k.2 j hj]
theorem IsNext.one {xs ys zs : List Int} (h : IsNext xs ys) (k : IsNext xs zs) : ys = zs := by
  obtain ⟨h1, a, ha, a0, a1, a2, a3⟩ := h
  obtain ⟨k1, b, hb, b0, b1, b2, b3⟩ := k
  have e : a = b := by
    rcases Nat.lt_trichotomy a b with h | h | h
    · have := a3 b h hb; omega
    · exact h
    · have := b3 a h ha; omega
  subst e
  refine key_ext h1 k1 fun j hj => ?_
  rcases Nat.lt_trichotomy j a with h | h | h
  · rw [a2 j h, b2 j h]
  · subst h; rw [a1, b1]
  · rw [(a3 j h hj).2, (b3 j h hj).2]
theorem IsNext.not_last {xs ys : List Int} (h : IsNext xs ys) : ¬ IsLast xs := fun k => by
  obtain ⟨_, a, ha, a0, _⟩ := h
  have := k a ha
  omega
theorem IsCommon.one {xs ys : List Int} {c d : Nat} (h : IsCommon xs ys c) (k : IsCommon xs ys d) : c = d := by
  obtain ⟨h1, h2, h3⟩ := h
  obtain ⟨k1, k2, k3⟩ := k
  rcases Nat.lt_trichotomy c d with e | e | e
  · exact absurd (k2 c e) (h3 (by omega))
  · exact e
  · exact absurd (h2 d e) (k3 (by omega))
theorem IsCommon.swap {xs ys : List Int} {c : Nat} (h : IsCommon xs ys c) : IsCommon ys xs c := ⟨h.1, fun j hj => (h.2.1 j hj).symm, fun hc => (h.2.2 hc).symm⟩
theorem IsCommon.whole {xs ys : List Int} (hx : Key xs) (hy : Key ys) (h : IsCommon xs ys 256) : xs = ys := key_ext hx hy h.2.1
theorem IsCommon.self (xs : List Int) : IsCommon xs xs 256 := ⟨by omega, fun _ _ => rfl, fun h => by omega⟩
theorem IsCommon.ahead {xs ys : List Int} {c : Nat} (h : IsCommon xs ys c) (hc : c < 256) : Ahead xs ys ∧ kb xs c = 0 ∧ kb ys c = 1 ∨ Ahead ys xs ∧ kb xs c = 1 ∧ kb ys c = 0 := by
  have h1 := h.2.2 hc
  rcases kb_two xs c with a | a <;> rcases kb_two ys c with b | b
  · rw [a, b] at h1; exact absurd rfl h1
  · exact Or.inl ⟨⟨c, hc, h.2.1, a, b⟩, a, b⟩
  · exact Or.inr ⟨⟨c, hc, fun j hj => (h.2.1 j hj).symm, b, a⟩, a, b⟩
  · rw [a, b] at h1; exact absurd rfl h1

theorem Ahead.not {xs ys : List Int} (h : Ahead xs ys) (k : Ahead ys xs) : False := by
  obtain ⟨a, ha, a1, a2, a3⟩ := h
  obtain ⟨b, hb, b1, b2, b3⟩ := k
  rcases Nat.lt_trichotomy a b with e | e | e
  · have := b1 a e; omega
  · subst e; omega
  · have := a1 b e; omega
theorem Ahead.ne {xs : List Int} (h : Ahead xs xs) : False := h.not h

/-- Two bytes that are unlike: the first unlike bit. -/
theorem byte_first (x y : Int) (hx : 0 ≤ x ∧ x ≤ 255) (hy : 0 ≤ y ∧ y ≤ 255) (h : x < y) : ∃ k, k < 8 ∧ (∀ j, j < k → bt x j = bt y j) ∧ bt x k = 0 ∧ bt y k = 1 := by
  have key : ∀ k, k ≤ 8 → (∃ k, k < 8 ∧ (∀ j, j < k → bt x j = bt y j) ∧ bt x k = 0 ∧ bt y k = 1) ∨ ((∀ j, j < k → bt x j = bt y j) ∧ x / 2 ^ (8 - k) = y / 2 ^ (8 - k)) := by
    intro k
    induction k with
    | zero =>
      intro _
      refine Or.inr ⟨fun j hj => by omega, ?_⟩
      show x / 256 = y / 256
      omega
    | succ k ih =>
      intro hk
      rcases ih (by omega) with h1 | ⟨h1, h2⟩
      · exact Or.inl h1
      · have e : 8 - k = (7 - k) + 1 := by omega
        have e2 : 8 - (k + 1) = 7 - k := by omega
        have hp : (0 : Int) < 2 ^ (7 - k) := Int.pow_pos (by omega)
        have hd : ∀ z : Int, z / 2 ^ (8 - k) = z / 2 ^ (7 - k) / 2 := by
          intro z
          rw [e, Int.pow_succ, Int.ediv_ediv_of_nonneg (by omega)]
        have hm : x / 2 ^ (7 - k) ≤ y / 2 ^ (7 - k) := Int.ediv_le_ediv hp (by omega)
        rw [hd, hd] at h2
        rw [e2]
        have bx : bt x k = x / 2 ^ (7 - k) % 2 := rfl
        have by' : bt y k = y / 2 ^ (7 - k) % 2 := rfl
        generalize x / 2 ^ (7 - k) = X at *
        generalize y / 2 ^ (7 - k) = Y at *
        by_cases hq : X = Y
        · refine Or.inr ⟨fun j hj => ?_, hq⟩
          rcases Nat.lt_or_ge j k with h5 | h5
          · exact h1 j h5
          · have : j = k := by omega
            subst this
            rw [bx, by', hq]
        · exact Or.inl ⟨k, by omega, h1, by omega, by omega⟩
  rcases key 8 (by omega) with h1 | ⟨_, h2⟩
  · exact h1
  · simp at h2
    omega

/-- The first unlike byte tells which key stands ahead. -/
theorem ahead_of_byte {xs ys : List Int} (hx : Key xs) (hy : Key ys) (i : Nat) (hi : i < 32) (he : ∀ j, j < i → xs.getD j 0 = ys.getD j 0) (h : xs.getD i 0 < ys.getD i 0) : Ahead xs ys := by
  obtain ⟨k, hk, h1, h2, h3⟩ := byte_first _ _ (hx.byte i) (hy.byte i) h
  refine ⟨8 * i + k, by omega, fun j hj => ?_, ?_, ?_⟩
  · unfold kb
    rcases Nat.lt_or_ge (j / 8) i with e | e
    · rw [he _ e]
    · have e2 : j / 8 = i := by omega
      rw [e2]
      exact h1 _ (by omega)
  · unfold kb
    rw [show (8 * i + k) / 8 = i by omega, show (8 * i + k) % 8 = k by omega]
    exact h2
  · unfold kb
    rw [show (8 * i + k) / 8 = i by omega, show (8 * i + k) % 8 = k by omega]
    exact h3

theorem cmp_first : ∀ xs ys : List Int, xs.length = ys.length → (cmp xs ys = 0 ∧ xs = ys) ∨ (cmp xs ys = -1 ∧ ∃ i, i < xs.length ∧ (∀ j, j < i → xs.getD j 0 = ys.getD j 0) ∧ xs.getD i 0 < ys.getD i 0) ∨ (cmp xs ys = 1 ∧ ∃ i, i < xs.length ∧ (∀ j, j < i → xs.getD j 0 = ys.getD j 0) ∧ ys.getD i 0 < xs.getD i 0)
  | [], [], _ => Or.inl ⟨rfl, rfl⟩
  | [], _ :: _, h => by simp at h
  | _ :: _, [], h => by simp at h
  | a :: r, b :: s, h => by
    have ih := cmp_first r s (by simpa using h)
    by_cases h1 : a < b
    · refine Or.inr (Or.inl ⟨by simp [cmp, h1], 0, by simp, fun j hj => by omega, by simpa using h1⟩)
    · by_cases h2 : b < a
      · refine Or.inr (Or.inr ⟨by simp [cmp, h1, h2], 0, by simp, fun j hj => by omega, by simpa using h2⟩)
      · have e : a = b := by omega
        subst e
        have hc : cmp (a :: r) (a :: s) = cmp r s := by simp [cmp]
        rw [hc]
        have up : ∀ i, (∀ j, j < i → r.getD j 0 = s.getD j 0) → ∀ j, j < i + 1 → (a :: r).getD j 0 = (a :: s).getD j 0 := by
          intro i hj j hji
          cases j with
          | zero => simp
          | succ j => simpa using hj j (by omega)
        rcases ih with ⟨q, rfl⟩ | ⟨q, i, q1, q2, q3⟩ | ⟨q, i, q1, q2, q3⟩
        · exact Or.inl ⟨q, rfl⟩
        · exact Or.inr (Or.inl ⟨q, i + 1, by simpa using q1, up i q2, by simpa using q3⟩)
        · exact Or.inr (Or.inr ⟨q, i + 1, by simpa using q1, up i q2, by simpa using q3⟩)

/-- What cmp tells of two keys. -/
theorem cmp_key {xs ys : List Int} (hx : Key xs) (hy : Key ys) : (cmp xs ys = 0 ∧ xs = ys) ∨ (cmp xs ys = -1 ∧ Ahead xs ys) ∨ (cmp xs ys = 1 ∧ Ahead ys xs) := by
  rcases cmp_first xs ys (by rw [hx.1, hy.1]) with h | ⟨h, i, h1, h2, h3⟩ | ⟨h, i, h1, h2, h3⟩
  · exact Or.inl h
  · exact Or.inr (Or.inl ⟨h, ahead_of_byte hx hy i (by have := hx.1; omega) h2 h3⟩)
  · exact Or.inr (Or.inr ⟨h, ahead_of_byte hy hx i (by have := hx.1; omega) (fun j hj => (h2 j hj).symm) h3⟩)

end Go.Proofs.YtpihigcnoifcfaaGreatDoor

/- Single bytes: their bits under xor, and, or, and not; a bit put, a byte filled up, a byte's next one; how many noughts lead. No word of the program. -/
namespace Go.Proofs.YtpihigcnoifcfaaGreatDoor
set_option maxRecDepth 20000
open Go.RowKit

theorem bt_nat (n k : Nat) : bt (n : Int) k = if n.testBit (7 - k) then 1 else 0 := by
  have h : bt (n : Int) k = ((n / 2 ^ (7 - k) % 2 : Nat) : Int) := by unfold bt; norm_cast
  rw [h, Nat.testBit_eq_decide_div_mod_eq]
  have h2 : n / 2 ^ (7 - k) % 2 < 2 := Nat.mod_lt _ (by omega)
  by_cases e : n / 2 ^ (7 - k) % 2 = 1
  · simp [e]
  · have : n / 2 ^ (7 - k) % 2 = 0 := by omega
    simp [this]

theorem nat_of (x : Int) (h : 0 ≤ x ∧ x ≤ 255) : ∃ n : Nat, n < 256 ∧ x = n := ⟨x.toNat, by omega, by omega⟩

theorem bt_xor (x y : Int) (hx : 0 ≤ x ∧ x ≤ 255) (hy : 0 ≤ y ∧ y ≤ 255) (k : Nat) : bt (bits .xor .u8 x y) k = if bt x k = bt y k then 0 else 1 := by
  obtain ⟨m, hm, rfl⟩ := nat_of x hx
  obtain ⟨n, hn, rfl⟩ := nat_of y hy
  rw [u8_xor_nat m n hm hn, bt_nat, bt_nat, bt_nat, Nat.testBit_xor]
  cases m.testBit (7 - k) <;> cases n.testBit (7 - k) <;> simp
theorem bt_and (x y : Int) (hx : 0 ≤ x ∧ x ≤ 255) (hy : 0 ≤ y ∧ y ≤ 255) (k : Nat) : bt (bits .and .u8 x y) k = if bt y k = 1 then bt x k else 0 := by
  obtain ⟨m, hm, rfl⟩ := nat_of x hx
  obtain ⟨n, hn, rfl⟩ := nat_of y hy
  rw [u8_and_nat m n hm hn, bt_nat, bt_nat, bt_nat, Nat.testBit_and]
  cases m.testBit (7 - k) <;> cases n.testBit (7 - k) <;> simp
theorem bt_or (x y : Int) (hx : 0 ≤ x ∧ x ≤ 255) (hy : 0 ≤ y ∧ y ≤ 255) (k : Nat) : bt (bits .or .u8 x y) k = if bt y k = 1 then 1 else bt x k := by
  obtain ⟨m, hm, rfl⟩ := nat_of x hx
  obtain ⟨n, hn, rfl⟩ := nat_of y hy
  rw [u8_or_nat m n hm hn, bt_nat, bt_nat, bt_nat, Nat.testBit_or]
  cases m.testBit (7 - k) <;> cases n.testBit (7 - k) <;> simp
theorem bt_andNot (x y : Int) (hx : 0 ≤ x ∧ x ≤ 255) (hy : 0 ≤ y ∧ y ≤ 255) (k : Nat) (hk : k < 8) : bt (bits .andNot .u8 x y) k = if bt y k = 1 then 0 else bt x k := by
  obtain ⟨m, hm, rfl⟩ := nat_of x hx
  obtain ⟨n, hn, rfl⟩ := nat_of y hy
  have hc : bt ((255 - n : Nat) : Int) k = 1 - bt (n : Int) k := by
    have := (show ∀ n, n < 256 → ∀ k, k < 8 → (255 - n) / 2 ^ (7 - k) % 2 + n / 2 ^ (7 - k) % 2 = 1 from by decide +kernel) n hn k hk
    have h1 : ∀ q : Nat, bt (q : Int) k = ((q / 2 ^ (7 - k) % 2 : Nat) : Int) := by intro q; unfold bt; norm_cast
    rw [h1, h1]
    omega
  rw [bt_nat (255 - n)] at hc
  rw [u8_andNot_nat m n hm hn, bt_nat, Nat.testBit_and, bt_nat m k]
  have h4 := bt_two (n : Int) k
  generalize bt (n : Int) k = u at *
  cases m.testBit (7 - k) <;> cases e2 : (255 - n).testBit (7 - k) <;> rw [e2] at hc <;> simp at hc <;> rcases h4 with rfl | rfl <;> simp at hc ⊢

theorem bits_byte (op : BinOp) (a b : Int) : 0 ≤ bits op .u8 a b ∧ bits op .u8 a b ≤ 255 := bits_within op .u8 a b

/-- One bit alone. -/
theorem bt_pow (k j : Nat) (hk : k < 8) (hj : j < 8) : bt (2 ^ (7 - k)) j = if j = k then 1 else 0 := by
  have := (show ∀ k, k < 8 → ∀ j, j < 8 → 2 ^ (7 - k) / 2 ^ (7 - j) % 2 = if j = k then 1 else 0 from by decide +kernel) k hk j hj
  unfold bt
  by_cases e : j = k
  · rw [if_pos e] at this ⊢
    exact_mod_cast this
  · rw [if_neg e] at this ⊢
    exact_mod_cast this

/-- A bit turned. -/
theorem bt_flip (x : Int) (hx : 0 ≤ x ∧ x ≤ 255) (k j : Nat) (hk : k < 8) (hj : j < 8) : bt (bits .xor .u8 x (2 ^ (7 - k))) j = if j = k then 1 - bt x j else bt x j := by
  have hp : (0 : Int) ≤ 2 ^ (7 - k) ∧ (2 : Int) ^ (7 - k) ≤ 255 := by
    have := (show ∀ k, k < 8 → 2 ^ (7 - k) ≤ 255 from by decide +kernel) k hk
    have e : (2 : Int) ^ (7 - k) = ((2 ^ (7 - k) : Nat) : Int) := by rw [Int.natCast_pow]; rfl
    rw [e]
    exact ⟨Int.natCast_nonneg _, Int.ofNat_le.2 this⟩
  rw [bt_xor x _ hx hp, bt_pow k j hk hj]
  have := bt_two x j
  by_cases e : j = k
  · rw [if_pos e, if_pos e]
    rcases this with h | h <;> simp [h]
  · rw [if_neg e, if_neg e]
    rcases this with h | h <;> simp [h]

theorem ones_nat (k : Nat) : (255 : Int) / 2 ^ k = ((255 / 2 ^ k : Nat) : Int) := by
  rw [Int.natCast_ediv, Int.natCast_pow]
  rfl
/-- Ones behind the first k bits. -/
theorem bt_ones (k j : Nat) (hk : k < 8) (hj : j < 8) : bt (255 / 2 ^ k) j = if j < k then 0 else 1 := by
  have := (show ∀ k, k < 8 → ∀ j, j < 8 → 255 / 2 ^ k / 2 ^ (7 - j) % 2 = if j < k then 0 else 1 from by decide +kernel) k hk j hj
  have h1 : ∀ q : Nat, bt (q : Int) j = ((q / 2 ^ (7 - j) % 2 : Nat) : Int) := by intro q; unfold bt; norm_cast
  rw [ones_nat, h1, this]
  by_cases e : j < k
  · rw [if_pos e, if_pos e]
    rfl
  · rw [if_neg e, if_neg e]
    rfl

theorem ones_byte (k : Nat) : (0 : Int) ≤ 255 / 2 ^ k ∧ (255 : Int) / 2 ^ k ≤ 255 :=
  ⟨Int.ediv_nonneg (by omega) (Int.pow_nonneg (by omega)), Int.ediv_le_self _ (by omega)⟩

theorem bt_zero (j : Nat) : bt 0 j = 0 := by simp [bt]
theorem bt_full (j : Nat) (hj : j < 8) : bt 255 j = 1 := by
  have := bt_ones 0 j (by omega) hj
  simpa using this

/-- A byte filled up behind its first k bits. -/
theorem bt_fill (x r : Int) (hx : 0 ≤ x ∧ x ≤ 255) (hr : 0 ≤ r ∧ r ≤ 255) (k j : Nat) (hk : k < 8) (hj : j < 8) :
    bt (bits .or .u8 (bits .andNot .u8 x (255 / 2 ^ k)) (bits .and .u8 r (255 / 2 ^ k))) j = if j < k then bt x j else bt r j := by
  rw [bt_or _ _ (bits_byte _ _ _) (bits_byte _ _ _), bt_and _ _ hr (ones_byte k), bt_andNot _ _ hx (ones_byte k) j hj, bt_ones k j hk hj]
  have h1 := bt_two x j
  have h2 := bt_two r j
  by_cases e : j < k
  · simp [e]
  · simp only [e, if_false, if_true]
    rcases h2 with h | h <;> simp [h]

/-- A bit put by sums. -/
theorem bt_put (x b : Int) (hx : 0 ≤ x ∧ x ≤ 255) (hb : b = 0 ∨ b = 1) (k : Nat) (hk : k < 8) :
    (0 ≤ x + (b - bt x k) * 2 ^ (7 - k) ∧ x + (b - bt x k) * 2 ^ (7 - k) ≤ 255) ∧ ∀ j, j < 8 → bt (x + (b - bt x k) * 2 ^ (7 - k)) j = if j = k then b else bt x j := by
  obtain ⟨n, hn, rfl⟩ := nat_of x hx
  obtain ⟨c, hc, rfl⟩ : ∃ c : Nat, c < 2 ∧ b = c := ⟨b.toNat, by omega, by omega⟩
  have h1 : ∀ (q : Nat) j, bt (q : Int) j = ((q / 2 ^ (7 - j) % 2 : Nat) : Int) := by intro q j; unfold bt; norm_cast
  have h0 := (show ∀ n, n < 256 → ∀ c, c < 2 → ∀ k, k < 8 → n / 2 ^ (7 - k) % 2 * 2 ^ (7 - k) ≤ n ∧ n + c * 2 ^ (7 - k) - n / 2 ^ (7 - k) % 2 * 2 ^ (7 - k) ≤ 255 ∧ ∀ j, j < 8 → (n + c * 2 ^ (7 - k) - n / 2 ^ (7 - k) % 2 * 2 ^ (7 - k)) / 2 ^ (7 - j) % 2 = if j = k then c else n / 2 ^ (7 - j) % 2 from by decide +kernel) n hn c hc k hk
  obtain ⟨h2, h3, h4⟩ := h0
  have e : (n : Int) + ((c : Int) - bt (n : Int) k) * 2 ^ (7 - k) = ((n + c * 2 ^ (7 - k) - n / 2 ^ (7 - k) % 2 * 2 ^ (7 - k) : Nat) : Int) := by
    rw [h1, Int.sub_mul, Int.ofNat_sub (by omega)]
    push_cast
    omega
  rw [e]
  refine ⟨⟨by omega, by omega⟩, fun j hj => ?_⟩
  rw [h1, h4 j hj, h1]
  by_cases q : j = k
  · rw [if_pos q, if_pos q]
  · rw [if_neg q, if_neg q]

/-- A byte's next one: the last 0 turns, all behind it. -/
theorem bt_next (x : Int) (hx : 0 ≤ x ∧ x < 255) : ∃ k, k < 8 ∧ bt x k = 0 ∧ bt (x + 1) k = 1 ∧ (∀ j, j < k → bt (x + 1) j = bt x j) ∧ ∀ j, k < j → j < 8 → bt x j = 1 ∧ bt (x + 1) j = 0 := by
  obtain ⟨n, hn, rfl⟩ : ∃ n : Nat, n < 255 ∧ x = n := ⟨x.toNat, by omega, by omega⟩
  have h1 : ∀ (q : Nat) j, bt (q : Int) j = ((q / 2 ^ (7 - j) % 2 : Nat) : Int) := by intro q j; unfold bt; norm_cast
  obtain ⟨k, hk, a1, a2, a3, a4⟩ := (show ∀ n, n < 255 → ∃ k, k < 8 ∧ n / 2 ^ (7 - k) % 2 = 0 ∧ (n + 1) / 2 ^ (7 - k) % 2 = 1 ∧ (∀ j, j < k → (n + 1) / 2 ^ (7 - j) % 2 = n / 2 ^ (7 - j) % 2) ∧ ∀ j, j < 8 → k < j → n / 2 ^ (7 - j) % 2 = 1 ∧ (n + 1) / 2 ^ (7 - j) % 2 = 0 from by decide +kernel) n hn
  have e : (n : Int) + 1 = ((n + 1 : Nat) : Int) := by omega
  rw [e]
  refine ⟨k, hk, by rw [h1, a1]; rfl, by rw [h1, a2]; rfl, fun j hj => by rw [h1, h1, a3 j hj], fun j hj hj8 => ?_⟩
  have := a4 j hj8 hj
  exact ⟨by rw [h1, this.1]; rfl, by rw [h1, this.2]; rfl⟩

end Go.Proofs.YtpihigcnoifcfaaGreatDoor
