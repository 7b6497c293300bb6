/- More on byte slices: the built-ins make and copy, and the conversion to a string, as laws for a walk. -/
import Derived.Test.YtnnmfgnommbmkaaGreatDoorLa01
import Derived.Test.YtnnmfgnommbmkaaGreatDoorLa02
import Derived.Laws.CopyOwn
import Derived.Lib.Bytealg
import Derived.Deep.QuietTactic
import Derived.BigQuiet
namespace Go.Proofs.YtnnmfgnommbmkaaGreatDoor
set_option maxRecDepth 20000
open Go.RowKit

theorem made_bytes (n : Nat) : madeCells (Value.cells (.int .u8 0)) n = B (List.replicate n 0) := by
  apply Array.ext'
  have h := toList_madeCells_one (.int .u8 0) n
  simp only [Value.cells] at *
  rw [h, B_toList]
  simp

theorem size_byte : (Tryz.prog.info? 5).map (·.size) = some 1 := by kernel_rfl

theorem wpList_mk {ops : Array Oper} {rest : List Oper} {o : Oper} {a : Act} {Q : Exit → Act → World → Prop} (w : World) (hgd : o.guard = none) (x y : Operand)
    (hop : o.op = Op.makeSlice 36 x y) (kl kc : IntKind) (L C : Int) (l c : Nat) (hx : a.eval x = .int kl L) (hy : a.eval y = .int kc C) (hL : L = (l : Int)) (hC : C = (c : Int)) (hlc : l ≤ c) (hc : c ≤ 281474976710656)
    (h : ∀ w', Row w' w.heap.size (List.replicate c 0) → Below w.heap.size w w' → w'.heap.size = w.heap.size + 1 → wpList Tryz.prog ops Q rest (a.put o.dst (.slice (some ⟨w.heap.size, 0, none⟩) l c)) w') :
    wpList Tryz.prog ops Q (o :: rest) a w := by
  refine wpList_plain hgd fun K hK => ?_
  obtain ⟨i, hi, hz, hs, hby⟩ := info_parts info_byte
  subst hL
  subst hC
  have hr := run_make (P := Tryz.prog) w 36 5 i _ u_bytes hi hz kl kc l c (by omega) (by omega) (by rw [hby]; omega) (by omega)
  rw [hs, Nat.mul_one, made_bytes] at hr
  simp only [Int.toNat_natCast] at hr
  unfold Oper.wp
  simp [execOp, hop, hx, hy, hr, Result.andThen]
  exact hK _ _ (h _ (heap_alloc_new w _) (grow_alloc w _) (by simp))

theorem B_set (zs : List Int) (i : Nat) (z : Int) : (B zs).setIfInBounds i (.int .u8 z) = B (zs.set i z) := by
  apply Array.ext'
  simp [B, List.map_set]

theorem Row.set {w : World} {g : Nat} {zs : List Int} (h : Row w g zs) (i : Nat) (z : Int) : Row (w.setCell ⟨g, i, none⟩ (.int .u8 z)) g (zs.set i z) := by
  unfold Row
  rw [heap_setCell_same w g i _ _ _ h, B_set]

theorem conv_reads {w : World} {v : Value} {zs : List Int} (h : Reads w v zs) : (convert 36 9 v).run Tryz.prog w = .ok (.string (strOfNums zs)) w := by
  obtain ⟨a, c, rfl, h1, h2, h3, h4⟩ := h
  by_cases hz : zs = []
  · subst hz
    cases a with
    | none => exact run_convert_bytes_nil w _ _ u_bytes u_byte _ _ _ u_string
    | some x =>
      rw [run_convert_bytes_string w _ _ _ _ _ c u_bytes u_byte u_string, run_bytesToString w _ _ c [] (by simpa using run_loadCells_list (P := Tryz.prog) w x [] (by simp))]
      rfl
  · obtain ⟨b, off, rfl, hc⟩ := h4 (List.length_pos_iff.2 hz)
    exact run_convert_bytes_arg w _ _ u_bytes u_byte b off _ c zs rfl hc _ u_string

theorem str_beq (xs ys : List Int) (hx : Bytes xs) (hy : Bytes ys) : ((strOfNums xs).toList == (strOfNums ys).toList) = decide (xs = ys) := by
  rw [ByteArray.toList_eq, ByteArray.toList_eq, strOfNums_data, strOfNums_data]
  rw [Bool.eq_iff_iff]
  simp only [beq_iff_eq, decide_eq_true_eq]
  constructor
  · intro h
    have key : ∀ (l : List Int), Bytes l → (l.map fun n => UInt8.ofNat n.toNat).map (fun u => (u.toNat : Int)) = l := by
      intro l hl
      rw [List.map_map]
      conv => rhs; rw [← List.map_id l]
      apply List.map_congr_left
      intro z hz
      have := hl z hz
      simp only [Function.comp, id_eq, UInt8.toNat_ofNat']
      omega
    rw [← key xs hx, ← key ys hy, h]
  · rintro rfl; rfl

end Go.Proofs.YtnnmfgnommbmkaaGreatDoor

namespace Go.Proofs.YtnnmfgnommbmkaaGreatDoor
set_option maxRecDepth 20000
open Go.RowKit

def cmp : List Int → List Int → Int
  | [], [] => 0
  | [], _ :: _ => -1
  | _ :: _, [] => 1
  | a :: r, b :: s => if a < b then -1 else if b < a then 1 else cmp r s

theorem cmp_bytes : ∀ (xs ys : List Int), Bytes xs → Bytes ys → Lib.compareBytes (xs.map fun n => UInt8.ofNat n.toNat) (ys.map fun n => UInt8.ofNat n.toNat) = cmp xs ys
  | [], [], _, _ => rfl
  | [], _ :: _, _, _ => rfl
  | _ :: _, [], _, _ => rfl
  | a :: r, b :: s, ha, hb => by
    have h1 := ha a (by simp)
    have h2 := hb b (by simp)
    have ih := cmp_bytes r s (fun z hz => ha z (by simp [hz])) (fun z hz => hb z (by simp [hz]))
    have e : ∀ x y : Int, 0 ≤ x ∧ x ≤ 255 → 0 ≤ y ∧ y ≤ 255 → (UInt8.ofNat x.toNat < UInt8.ofNat y.toNat ↔ x < y) := by
      intro x y hx hy
      rw [UInt8.lt_iff_toNat_lt, UInt8.toNat_ofNat', UInt8.toNat_ofNat']
      omega
    simp only [List.map_cons, Lib.compareBytes, cmp, ih, e a b h1 h2, e b a h2 h1]

theorem load_bytes : ∀ (zs : List Int) (b off : Nat) (acc : ByteArray) (w : World), (∀ i, i < zs.length → w.cell? ⟨b, off + i, none⟩ = some (.int .u8 (zs.getD i 0))) →
    (Extern.Bytes.loadBytes ⟨b, off, none⟩ zs.length acc).run Tryz.prog w = .ok (zs.foldl (fun r n => r.push (n.toNat.toUInt8)) acc) w
  | [], _, _, _, _, _ => by simp [Extern.Bytes.loadBytes]
  | z :: zs, b, off, acc, w, h => by
    have h0 := h 0 (by simp)
    simp only [Nat.add_zero, List.getD_cons_zero] at h0
    have hl : (load ⟨b, off, none⟩).run Tryz.prog w = .ok (.int .u8 z) w := by
      simp [go_sem, h0]
    have ih := load_bytes zs b (off + 1) (acc.push z.toNat.toUInt8) w (fun i hi => by
      have := h (i + 1) (by simpa using hi)
      rw [show off + 1 + i = off + (i + 1) by omega]
      simpa using this)
    simp only [List.length_cons, Extern.Bytes.loadBytes, Sem.run_bind, hl, Result.andThen_ok, Addr.add_lit, ih, List.foldl_cons]

theorem bytesOf_reads {w : World} {v : Value} {zs : List Int} (h : Reads w v zs) : (Extern.Bytes.bytesOf v).run Tryz.prog w = .ok (strOfNums zs) w := by
  obtain ⟨a, c, rfl, h1, h2, h3, h4⟩ := h
  have hfold : zs.foldl (fun r n => r.push (n.toNat.toUInt8)) ByteArray.empty = strOfNums zs := by
    have := foldl_push_bytes zs ByteArray.empty
    have e : (fun (r : ByteArray) (n : Int) => r.push (n.toNat.toUInt8)) = fun r n => r.push (UInt8.ofNat n.toNat) := rfl
    rw [e, this]
    simp [strOfNums, ByteArray.empty, ByteArray.emptyWithCapacity]
    rfl
  cases a with
  | none =>
    have hz : zs = [] := by
      by_cases hz : zs = []
      · exact hz
      · obtain ⟨_, _, e, _⟩ := h4 (List.length_pos_iff.2 hz)
        cases e
    subst hz
    rfl
  | some x =>
    by_cases hz : zs = []
    · subst hz
      rfl
    · obtain ⟨b, off, e, hc⟩ := h4 (List.length_pos_iff.2 hz)
      injection e with e
      subst e
      show (Extern.Bytes.loadBytes ⟨b, off, none⟩ zs.length .empty).run Tryz.prog w = _
      rw [load_bytes zs b off _ w hc, hfold]

theorem call_cmp {w : World} {x y : Value} {xs ys : List Int} (hx : Reads w x xs) (hy : Reads w y ys) : (callFunc 78 #[x, y]).run Tryz.prog w = .ok (.value (.int .i64 (cmp xs ys))) w := by
  have b1 : Bytes xs := by obtain ⟨_, _, _, _, _, h, _⟩ := hx; exact h
  have b2 : Bytes ys := by obtain ⟨_, _, _, _, _, h, _⟩ := hy; exact h
  rw [run_callFunc_extern Tryz.func78 (by kernel_rfl) (by kernel_rfl) (by kernel_rfl) (e := Extern.BytealgCompare.compare) (by kernel_rfl)]
  have e : Extern.BytealgCompare.compare #[x, y] = (do pure (goInt (Extern.BytealgCompare.cmp (← Extern.Bytes.bytesOf x) (← Extern.Bytes.bytesOf y)))) := rfl
  rw [e]
  simp only [Sem.run_bind, bytesOf_reads hx, bytesOf_reads hy, Result.andThen_ok, Sem.run_pure]
  rw [Lib.cmp_eq, strOfNums_data, strOfNums_data, cmp_bytes xs ys b1 b2]
  rfl

set_option maxHeartbeats 400000 in
theorem bcompare_any (x y : Value) (xs ys : List Int) (w : World) (hx : Reads w x xs) (hy : Reads w y ys) :
    Calls Tryz.prog 45 #[x, y] w fun e w' => e = .returned (.int .i64 (cmp xs ys)) ∧ w' = w := by
  have hc := call_cmp hx hy
  clear hx hy
  generalize cmp xs ys = r at *
  go_enter Tryz.func45, Tryz.ntmps45
  go_wp2
  go_ret
  exact ⟨rfl, rfl⟩

set_option maxHeartbeats 400000 in
theorem compare_any (x y : Value) (xs ys : List Int) (w : World) (hx : Reads w x xs) (hy : Reads w y ys) :
    Calls Tryz.prog 22 #[x, y] w fun e w' => e = .returned (.int .i64 (cmp xs ys)) ∧ w' = w := by
  have H := hidden (bcompare_any x y xs ys w hx hy)
  clear hx hy
  go_enter Tryz.func22, Tryz.ntmps22
  go_wp2_with (go_at_call 45; refine H.out.mono ?_; rintro e w' ⟨rfl, rfl⟩)
  go_ret
  exact ⟨rfl, rfl⟩

end Go.Proofs.YtnnmfgnommbmkaaGreatDoor

namespace Go.Proofs.YtnnmfgnommbmkaaGreatDoor
set_option maxRecDepth 20000
open Go.RowKit

def bt (x : Int) (k : Nat) : Int := x / 2 ^ (7 - k) % 2
def kb (xs : List Int) (d : Nat) : Int := bt (xs.getD (d / 8) 0) (d % 8)
def Key (xs : List Int) : Prop := xs.length = 32 ∧ Bytes xs

theorem bt_two (x : Int) (k : Nat) : bt x k = 0 ∨ bt x k = 1 := by
  unfold bt
  generalize x / 2 ^ (7 - k) = y
  omega
theorem kb_two (xs : List Int) (d : Nat) : kb xs d = 0 ∨ kb xs d = 1 := bt_two _ _

theorem byte_ext (x y : Int) (hx : 0 ≤ x ∧ x ≤ 255) (hy : 0 ≤ y ∧ y ≤ 255) (h : ∀ k, k < 8 → bt x k = bt y k) : x = y := by
  have h0 := h 0 (by omega)
  have h1 := h 1 (by omega)
  have h2 := h 2 (by omega)
  have h3 := h 3 (by omega)
  have h4 := h 4 (by omega)
  have h5 := h 5 (by omega)
  have h6 := h 6 (by omega)
  have h7 := h 7 (by omega)
  simp only [bt, Nat.reduceSub, Int.reducePow] at h0 h1 h2 h3 h4 h5 h6 h7
  omega

theorem Key.byte {xs : List Int} (h : Key xs) (i : Nat) : 0 ≤ xs.getD i 0 ∧ xs.getD i 0 ≤ 255 := h.2.getD i

theorem key_ext {xs ys : List Int} (hx : Key xs) (hy : Key ys) (h : ∀ d, d < 256 → kb xs d = kb ys d) : xs = ys := by
  apply List.ext_getElem (by rw [hx.1, hy.1])
  intro i h1 h2
  have e : xs.getD i 0 = ys.getD i 0 := by
    refine byte_ext _ _ (hx.byte i) (hy.byte i) fun k hk => ?_
    have hi : i < 32 := by rw [← hx.1]; exact h1
    have := h (8 * i + k) (by omega)
    unfold kb at this
    rw [show (8 * i + k) / 8 = i by omega, show (8 * i + k) % 8 = k by omega] at this
    exact this
  simpa [List.getD, h1, h2] using e

theorem Bytes.set {zs : List Int} (h : Bytes zs) (i : Nat) (z : Int) (hz : 0 ≤ z ∧ z ≤ 255) : Bytes (zs.set i z) := fun u hu => by
  rcases List.mem_or_eq_of_mem_set hu with h1 | rfl
  · exact h u h1
  · exact hz
theorem Key.set {xs : List Int} (h : Key xs) (i : Nat) (z : Int) (hz : 0 ≤ z ∧ z ≤ 255) : Key (xs.set i z) := ⟨by rw [List.length_set]; exact h.1, h.2.set i z hz⟩

theorem key_getD_set (xs : List Int) (i j : Nat) (z : Int) (hi : i < xs.length) : (xs.set i z).getD j 0 = if j = i then z else xs.getD j 0 := by
  by_cases e : j = i
  · subst e
    simp [List.getD, hi]
  · rw [if_neg e]
    simp [List.getD, List.getElem?_set_ne (Ne.symm e)]

theorem kb_set (xs : List Int) (i d : Nat) (z : Int) (hi : i < xs.length) : kb (xs.set i z) d = if d / 8 = i then bt z (d % 8) else kb xs d := by
  unfold kb
  rw [key_getD_set xs i _ z hi]
  by_cases e : d / 8 = i
  · rw [if_pos e, if_pos e]
  · rw [if_neg e, if_neg e]

def IsSet (xs : List Int) (d : Nat) (b : Int) (ys : List Int) : Prop := Key ys ∧ ∀ j, j < 256 → kb ys j = if j = d then b else kb xs j
def IsFlip (xs : List Int) (d : Nat) (ys : List Int) : Prop := Key ys ∧ ∀ j, j < 256 → kb ys j = if j = d then 1 - kb xs j else kb xs j
def IsFill (xs : List Int) (d : Nat) (b : Int) (ys : List Int) : Prop := Key ys ∧ ∀ j, j < 256 → kb ys j = if j < d then kb xs j else b
def IsLast (xs : List Int) : Prop := ∀ j, j < 256 → kb xs j = 1
def IsNext (xs ys : List Int) : Prop := Key ys ∧ ∃ k, k < 256 ∧ kb xs k = 0 ∧ kb ys k = 1 ∧ (∀ j, j < k → kb ys j = kb xs j) ∧ ∀ j, k < j → j < 256 → kb xs j = 1 ∧ kb ys j = 0
def IsCommon (xs ys : List Int) (c : Nat) : Prop := c ≤ 256 ∧ (∀ j, j < c → kb xs j = kb ys j) ∧ (c < 256 → kb xs c ≠ kb ys c)
def Ahead (xs ys : List Int) : Prop := ∃ c, c < 256 ∧ (∀ j, j < c → kb xs j = kb ys j) ∧ kb xs c = 0 ∧ kb ys c = 1

theorem IsNext.not_last {xs ys : List Int} (h : IsNext xs ys) : ¬ IsLast xs := fun k => by
  obtain ⟨_, a, ha, a0, _⟩ := h
  have := k a ha
  omega
theorem IsCommon.one {xs ys : List Int} {c d : Nat} (h : IsCommon xs ys c) (k : IsCommon xs ys d) : c = d := by
  obtain ⟨h1, h2, h3⟩ := h
  obtain ⟨k1, k2, k3⟩ := k
  rcases Nat.lt_trichotomy c d with e | e | e
  · exact absurd (k2 c e) (h3 (by omega))
  · exact e
  · exact absurd (h2 d e) (k3 (by omega))
theorem IsCommon.whole {xs ys : List Int} (hx : Key xs) (hy : Key ys) (h : IsCommon xs ys 256) : xs = ys := key_ext hx hy h.2.1
theorem IsCommon.self (xs : List Int) : IsCommon xs xs 256 := ⟨by omega, fun _ _ => rfl, fun h => by omega⟩
theorem Ahead.not {xs ys : List Int} (h : Ahead xs ys) (k : Ahead ys xs) : False := by
  obtain ⟨a, ha, a1, a2, a3⟩ := h
  obtain ⟨b, hb, b1, b2, b3⟩ := k
  rcases Nat.lt_trichotomy a b with e | e | e
  · have := b1 a e; omega
  · subst e; omega
  · have := a1 b e; omega
theorem Ahead.ne {xs : List Int} (h : Ahead xs xs) : False := h.not h

theorem byte_first (x y : Int) (hx : 0 ≤ x ∧ x ≤ 255) (hy : 0 ≤ y ∧ y ≤ 255) (h : x < y) : ∃ k, k < 8 ∧ (∀ j, j < k → bt x j = bt y j) ∧ bt x k = 0 ∧ bt y k = 1 := by
  have key : ∀ k, k ≤ 8 → (∃ k, k < 8 ∧ (∀ j, j < k → bt x j = bt y j) ∧ bt x k = 0 ∧ bt y k = 1) ∨ ((∀ j, j < k → bt x j = bt y j) ∧ x / 2 ^ (8 - k) = y / 2 ^ (8 - k)) := by
    intro k
    induction k with
    | zero =>
      intro _
      refine Or.inr ⟨fun j hj => by omega, ?_⟩
      show x / 256 = y / 256
      omega
    | succ k ih =>
      intro hk
      rcases ih (by omega) with h1 | ⟨h1, h2⟩
      · exact Or.inl h1
      · have e : 8 - k = (7 - k) + 1 := by omega
        have e2 : 8 - (k + 1) = 7 - k := by omega
        have hp : (0 : Int) < 2 ^ (7 - k) := Int.pow_pos (by omega)
        have hd : ∀ z : Int, z / 2 ^ (8 - k) = z / 2 ^ (7 - k) / 2 := by
          intro z
          rw [e, Int.pow_succ, Int.ediv_ediv_of_nonneg (by omega)]
        have hm : x / 2 ^ (7 - k) ≤ y / 2 ^ (7 - k) := Int.ediv_le_ediv hp (by omega)
        rw [hd, hd] at h2
        rw [e2]
        have bx : bt x k = x / 2 ^ (7 - k) % 2 := rfl
        have by' : bt y k = y / 2 ^ (7 - k) % 2 := rfl
        generalize x / 2 ^ (7 - k) = X at *
        generalize y / 2 ^ (7 - k) = Y at *
        by_cases hq : X = Y
        · refine Or.inr ⟨fun j hj => ?_, hq⟩
          rcases Nat.lt_or_ge j k with h5 | h5
          · exact h1 j h5
          · have : j = k := by omega
            subst this
            rw [bx, by', hq]
        · exact Or.inl ⟨k, by omega, h1, by omega, by omega⟩
  rcases key 8 (by omega) with h1 | ⟨_, h2⟩
  · exact h1
  · simp at h2
    omega

theorem ahead_of_byte {xs ys : List Int} (hx : Key xs) (hy : Key ys) (i : Nat) (hi : i < 32) (he : ∀ j, j < i → xs.getD j 0 = ys.getD j 0) (h : xs.getD i 0 < ys.getD i 0) : Ahead xs ys := by
  obtain ⟨k, hk, h1, h2, h3⟩ := byte_first _ _ (hx.byte i) (hy.byte i) h
  refine ⟨8 * i + k, by omega, fun j hj => ?_, ?_, ?_⟩
  · unfold kb
    rcases Nat.lt_or_ge (j / 8) i with e | e
    · rw [he _ e]
    · have e2 : j / 8 = i := by omega
      rw [e2]
      exact h1 _ (by omega)
  · unfold kb
    rw [show (8 * i + k) / 8 = i by omega, show (8 * i + k) % 8 = k by omega]
    exact h2
  · unfold kb
    rw [show (8 * i + k) / 8 = i by omega, show (8 * i + k) % 8 = k by omega]
    exact h3

theorem cmp_first : ∀ xs ys : List Int, xs.length = ys.length → (cmp xs ys = 0 ∧ xs = ys) ∨ (cmp xs ys = -1 ∧ ∃ i, i < xs.length ∧ (∀ j, j < i → xs.getD j 0 = ys.getD j 0) ∧ xs.getD i 0 < ys.getD i 0) ∨ (cmp xs ys = 1 ∧ ∃ i, i < xs.length ∧ (∀ j, j < i → xs.getD j 0 = ys.getD j 0) ∧ ys.getD i 0 < xs.getD i 0)
  | [], [], _ => Or.inl ⟨rfl, rfl⟩
  | [], _ :: _, h => by simp at h
  | _ :: _, [], h => by simp at h
  | a :: r, b :: s, h => by
    have ih := cmp_first r s (by simpa using h)
    by_cases h1 : a < b
    · refine Or.inr (Or.inl ⟨by simp [cmp, h1], 0, by simp, fun j hj => by omega, by simpa using h1⟩)
    · by_cases h2 : b < a
      · refine Or.inr (Or.inr ⟨by simp [cmp, h1, h2], 0, by simp, fun j hj => by omega, by simpa using h2⟩)
      · have e : a = b := by omega
        subst e
        have hc : cmp (a :: r) (a :: s) = cmp r s := by simp [cmp]
        rw [hc]
        have up : ∀ i, (∀ j, j < i → r.getD j 0 = s.getD j 0) → ∀ j, j < i + 1 → (a :: r).getD j 0 = (a :: s).getD j 0 := by
          intro i hj j hji
          cases j with
          | zero => simp
          | succ j => simpa using hj j (by omega)
        rcases ih with ⟨q, rfl⟩ | ⟨q, i, q1, q2, q3⟩ | ⟨q, i, q1, q2, q3⟩
        · exact Or.inl ⟨q, rfl⟩
        · exact Or.inr (Or.inl ⟨q, i + 1, by simpa using q1, up i q2, by simpa using q3⟩)
        · exact Or.inr (Or.inr ⟨q, i + 1, by simpa using q1, up i q2, by simpa using q3⟩)

theorem cmp_key {xs ys : List Int} (hx : Key xs) (hy : Key ys) : (cmp xs ys = 0 ∧ xs = ys) ∨ (cmp xs ys = -1 ∧ Ahead xs ys) ∨ (cmp xs ys = 1 ∧ Ahead ys xs) := by
  rcases cmp_first xs ys (by rw [hx.1, hy.1]) with h | ⟨h, i, h1, h2, h3⟩ | ⟨h, i, h1, h2, h3⟩
  · exact Or.inl h
  · exact Or.inr (Or.inl ⟨h, ahead_of_byte hx hy i (by have := hx.1; omega) h2 h3⟩)
  · exact Or.inr (Or.inr ⟨h, ahead_of_byte hy hx i (by have := hx.1; omega) (fun j hj => (h2 j hj).symm) h3⟩)

end Go.Proofs.YtnnmfgnommbmkaaGreatDoor
