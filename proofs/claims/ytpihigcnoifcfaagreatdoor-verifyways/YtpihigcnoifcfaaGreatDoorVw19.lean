/- The document's digests (rootcellarref03), and Entry of both, as contracts. -/
import Derived.Test.YtpihigcnoifcfaaGreatDoorVw11
import Derived.Test.YtpihigcnoifcfaaGreatDoorVw18
import Derived.Laws.ResultCell
import Derived.Test.YtpihigcnoifcfaaGreatDoorVw16
import Derived.Test.YtpihigcnoifcfaaGreatDoorVw12
import Derived.Test.YtpihigcnoifcfaaGreatDoorVw15
import Derived.Test.YtpihigcnoifcfaaGreatDoorVw05
import Derived.Sort.Statements
namespace Go.Proofs.YtpihigcnoifcfaaGreatDoor
set_option maxRecDepth 20000
open Go.RowKit

end Go.Proofs.YtpihigcnoifcfaaGreatDoor

/- The document's Check, Encode, Digest of nodes, as contracts. -/
namespace Go.Proofs.YtpihigcnoifcfaaGreatDoor
set_option maxRecDepth 20000
open Go.RowKit

theorem wpList_ldmg {ops : Array Oper} {rest : List Oper} {op : Oper} {a : Act} {Q : Exit → Act → World → Prop} (w : World) (hgd : Region.wanted op (yielded ops a.tmps) = true) (x : Operand) (ty : TypeId) (ho : op.op = .load ty x)
    (g o : Nat) (t : TypeId) (zs xs : List Int) (hx : a.eval x = .pointer (some ⟨g, o, none⟩)) (h : Blk w g t (B zs)) (hs : Seg zs o xs) (n : Nat) (e : TypeId) (hu : Tryz.prog.underlying ty = some (.array n e)) (hi : (Tryz.prog.info? ty).map (·.size) = some xs.length)
    (hk : wpList Tryz.prog ops Q rest (a.put op.dst (.agg (B xs))) w) : wpList Tryz.prog ops Q (op :: rest) a w :=
  BigFrame.wpList_want hgd fun _ hK => wp_load_mid ty x ho g o hx (xs.map (Value.int .u8)) _ (hs.range h) hu rfl (by rw [hi]; simp) (hK _ _ hk)

theorem wpList_bldg {ops : Array Oper} {rest : List Oper} {op : Oper} {a : Act} {Q : Exit → Act → World → Prop} (w : World) (hgd : Region.wanted op (yielded ops a.tmps) = true) (ty : TypeId) (parts : Array (Nat × Operand)) (ho : op.op = .build ty parts)
    (cs : Array Value) (h : Tryz.prog.built ty (parts.map fun (i, x) => (i, a.eval x)).toList = some cs)
    (hk : wpList Tryz.prog ops Q rest (a.put op.dst (.agg cs)) w) : wpList Tryz.prog ops Q (op :: rest) a w := by
  refine BigFrame.wpList_want hgd fun K hK => ?_
  unfold Oper.wp execOp
  simp only [ho, Sem.run_bind, run_build w ty _ cs h, Result.andThen_ok, Sem.run_pure]
  exact hK _ _ hk

end Go.Proofs.YtpihigcnoifcfaaGreatDoor

/- Leaves: a key and its value's digest; their order; where they part; the root of a list of leaves. No program in this text. -/
namespace Go.Proofs.YtpihigcnoifcfaaGreatDoor
set_option maxRecDepth 20000
open Go.RowKit

structure Lf where
  key : List Int
  val : List Int
  hk : Key key
  hl : val.length = 32
  hb : Bytes val

instance : Inhabited Lf := ⟨⟨z32, z32, ⟨rfl, z32_bytes⟩, rfl, z32_bytes⟩⟩

theorem Lf.nd (x : Lf) : Nd 1 x.key x.val z32 z32 := ⟨by omega, by omega, x.hk.1, x.hl, rfl, rfl, x.hk.2, x.hb, z32_bytes, z32_bytes⟩
def Lf.ints (x : Lf) : List Int := Go.Proofs.YtpihigcnoifcfaaGreatDoor.nd 1 x.key x.val z32 z32
theorem Lf.ints_length (x : Lf) : x.ints.length = 129 := x.nd.length
def encLf (x : Lf) : List Value := x.ints.map (Value.int .u8)
theorem encLf_length (x : Lf) : (encLf x).length = 129 := by simp [encLf, x.ints_length]
theorem encLf_one (x : Lf) : ∀ v ∈ encLf x, v.oneCell' = true := fun v hv => by
  obtain ⟨z, _, rfl⟩ := List.mem_map.1 hv
  rfl
theorem encLf_array (x : Lf) : (encLf x).toArray = B (Go.Proofs.YtpihigcnoifcfaaGreatDoor.nd 1 x.key x.val z32 z32) := rfl

def cfLf (x y : Lf) : Int := cmp x.key y.key

theorem Ahead.trans {a b c : List Int} (h : Ahead a b) (k : Ahead b c) : Ahead a c := by
  obtain ⟨i, hi, h1, h2, h3⟩ := h
  obtain ⟨j, hj, k1, k2, k3⟩ := k
  rcases Nat.lt_trichotomy i j with e | e | e
  · exact ⟨i, hi, fun q hq => (h1 q hq).trans (k1 q (by omega)), h2, by rw [← k1 i e]; exact h3⟩
  · subst e
    omega
  · exact ⟨j, hj, fun q hq => (h1 q (by omega)).trans (k1 q hq), by rw [h1 j e]; exact k2, k3⟩
theorem Ahead.irrefl (a : List Int) : ¬ Ahead a a := fun ⟨_, _, _, h2, h3⟩ => by omega
theorem ahead_total {a b : List Int} (ha : Key a) (hb : Key b) (h : ¬ Ahead a b) : a = b ∨ Ahead b a := by
  rcases cmp_key ha hb with ⟨_, e⟩ | ⟨_, e⟩ | ⟨_, e⟩
  · exact .inl e
  · exact absurd e h
  · exact .inr e

theorem cfLf_lt (x y : Lf) : decide (cfLf x y < 0) = true ↔ Ahead x.key y.key := by
  rw [decide_eq_true_iff]
  exact cmp_lt x.hk y.hk

theorem swoLf : Go.Sort.SWO (fun x y : Lf => decide (cfLf x y < 0)) where
  irrefl x := by
    rw [← Bool.not_eq_true, cfLf_lt]
    exact Ahead.irrefl _
  trans x y z h1 h2 := by
    rw [cfLf_lt] at *
    exact h1.trans h2
  ntrans x y z h1 h2 := by
    rw [← Bool.not_eq_true, cfLf_lt] at *
    intro h3
    rcases ahead_total x.hk y.hk h1 with e | e
    · rw [e] at h3
      exact h2 h3
    · exact h2 (e.trans h3)

/-- Rising, by key. -/
def Rise (l : List Lf) : Prop := l.Pairwise fun a b => Ahead a.key b.key
theorem Rise.sub {l m : List Lf} (h : Rise l) (k : m.Sublist l) : Rise m := h.sublist k

/-- All keys have the same first d bits. -/
def Same (l : List Lf) (d : Nat) : Prop := ∀ a ∈ l, ∀ b ∈ l, ∀ j, j < d → kb a.key j = kb b.key j
theorem Same.sub {l m : List Lf} {d : Nat} (h : Same l d) (k : ∀ x ∈ m, x ∈ l) : Same m d := fun a ha b hb j hj => h a (k a ha) b (k b hb) j hj

def sdL (l : List Lf) (d : Nat) (b : Int) : List Lf := l.filter fun x => kb x.key d == b
theorem Same.side {l : List Lf} {d : Nat} (b : Int) (h : Same l d) : Same (sdL l d b) (d + 1) := by
  intro x hx y hy j hj
  unfold sdL at hx hy
  rw [List.mem_filter, beq_iff_eq] at hx hy
  by_cases e : j = d
  · rw [e, hx.2, hy.2]
  · exact h x hx.1 y hy.1 j (by omega)
theorem Rise.side {l : List Lf} (d : Nat) (b : Int) (h : Rise l) : Rise (sdL l d b) := h.sub List.filter_sublist

theorem kb_bit (a : List Int) (d : Nat) : kb a d = 0 ∨ kb a d = 1 := by
  unfold kb bt
  omega

/-- As they rise and have the same first d bits, those whose bit d is 0 stand ahead. -/
theorem part_at : ∀ (l : List Lf) (d : Nat), d < 256 → Rise l → Same l d → l.take (l.countP fun x => !(kb x.key d == 1)) = sdL l d 0 ∧ l.drop (l.countP fun x => !(kb x.key d == 1)) = sdL l d 1
  | [], d, _, _, _ => ⟨rfl, rfl⟩
  | a :: r, d, hd, hr, hs => by
    have hr' : Rise r := (List.pairwise_cons.1 hr).2
    have hs' : Same r d := hs.sub fun x hx => by simp [hx]
    obtain ⟨i1, i2⟩ := part_at r d hd hr' hs'
    rcases kb_bit a.key d with e | e
    · have e1 : (kb a.key d == 1) = false := by simp [e]
      have e0 : (kb a.key d == 0) = true := by simp [e]
      rw [List.countP_cons_of_pos (by simp [e1])]
      constructor
      · rw [List.take_succ_cons, i1]
        unfold sdL
        rw [List.filter_cons_of_pos (p := fun x : Lf => kb x.key d == 0) e0]
      · rw [List.drop_succ_cons, i2]
        unfold sdL
        rw [List.filter_cons_of_neg (by simp [e1])]
    · have hall : ∀ x ∈ r, kb x.key d = 1 := by
        intro x hx
        rcases kb_bit x.key d with q | q
        · have h1 : Ahead x.key a.key := ⟨d, hd, fun j hj => hs x (by simp [hx]) a (by simp) j hj, q, e⟩
          exact absurd (((List.pairwise_cons.1 hr).1 x hx).trans h1) (Ahead.irrefl _)
        · exact q
      have e1 : (kb a.key d == 1) = true := by simp [e]
      have hc : (a :: r).countP (fun x => !(kb x.key d == 1)) = 0 := by
        rw [List.countP_eq_zero]
        intro x hx
        rcases List.mem_cons.1 hx with rfl | hx
        · simp [e1]
        · simp [hall x hx]
      rw [hc]
      constructor
      · rw [List.take_zero]
        symm
        unfold sdL
        rw [List.filter_eq_nil_iff]
        intro x hx
        rcases List.mem_cons.1 hx with rfl | hx
        · simp [e]
        · simp [hall x hx]
      · rw [List.drop_zero]
        symm
        unfold sdL
        rw [List.filter_eq_self]
        intro x hx
        rcases List.mem_cons.1 hx with rfl | hx
        · exact e1
        · simp [hall x hx]

/-- Once one bit is 1, all behind it are. -/
theorem part_mono (l : List Lf) (d : Nat) (hd : d < 256) (hr : Rise l) (hs : Same l d) : ∀ a b, a ≤ b → b < l.length → (kb l[a]!.key d == 1) = true → (kb l[b]!.key d == 1) = true := by
  intro a b hab hb h1
  rcases Nat.lt_or_eq_of_le hab with e | e
  · have ha : a < l.length := by omega
    rw [getElem!_pos l a ha] at h1
    rw [getElem!_pos l b hb]
    have hA := List.pairwise_iff_getElem.1 hr a b ha hb e
    rcases kb_bit l[b].key d with q | q
    · have h2 : Ahead l[b].key l[a].key := ⟨d, hd, fun j hj => hs _ (List.getElem_mem hb) _ (List.getElem_mem ha) j hj, q, by simpa using h1⟩
      exact absurd (hA.trans h2) (Ahead.irrefl _)
    · simp [q]
  · rw [← e]
    exact h1

/-- The root of leaves at the depth d; n: how many depths are left. -/
def rtL : Nat → Nat → List Lf → List Int
  | _, _, [] => emD
  | _, _, [x] => lfD x.key x.val
  | 0, _, _ :: _ :: _ => inD emD emD
  | n + 1, d, a :: b :: l => inD (rtL n (d + 1) (sdL (a :: b :: l) d 0)) (rtL n (d + 1) (sdL (a :: b :: l) d 1))
theorem rtL_nil (n d : Nat) : rtL n d [] = emD := by cases n <;> rfl
theorem rtL_one (n d : Nat) (x : Lf) : rtL n d [x] = lfD x.key x.val := by cases n <;> rfl
theorem rtL_more (n d : Nat) (l : List Lf) (h : 2 ≤ l.length) : rtL (n + 1) d l = inD (rtL n (d + 1) (sdL l d 0)) (rtL n (d + 1) (sdL l d 1)) := by
  match l, h with
  | a :: b :: l, _ => rfl

theorem rtL_perm : ∀ (n d : Nat) (l m : List Lf), l.Perm m → rtL n d l = rtL n d m := by
  intro n
  induction n with
  | zero =>
    intro d l m h
    match l, m, h with
    | [], m, h => rw [List.nil_perm.1 h]
    | [e], m, h => rw [List.singleton_perm.1 h]
    | a :: b :: l, [], h => exact absurd h.length_eq (by simp)
    | a :: b :: l, [e], h => exact absurd h.length_eq (by simp)
    | a :: b :: l, c :: d :: m, h => rfl
  | succ n ih =>
    intro d l m h
    match l, m, h with
    | [], m, h => rw [List.nil_perm.1 h]
    | [e], m, h => rw [List.singleton_perm.1 h]
    | a :: b :: l, m, h =>
      have h2 : 2 ≤ m.length := by rw [← h.length_eq]; simp
      have hs : ∀ c, (sdL (a :: b :: l) d c).Perm (sdL m d c) := fun c => h.filter _
      rw [rtL_more n d _ (by simp), rtL_more n d m h2, ih (d + 1) _ _ (hs 0), ih (d + 1) _ _ (hs 1)]

/-- Leaves with the same 256 bits that rise are one at most. -/
theorem Rise.few {l : List Lf} (h : Rise l) (hs : Same l 256) : l.length ≤ 1 := by
  match l, h, hs with
  | [], _, _ => simp
  | [x], _, _ => simp
  | a :: b :: r, h, hs =>
    obtain ⟨c, hc, h1, h2, h3⟩ := (List.pairwise_cons.1 h).1 b (by simp)
    have := hs a (by simp) b (by simp) c hc
    omega

theorem dig_by (l : List Int) : Bytes (dig l) := dig_bytes l

instance (xs : List Int) : Decidable (Key xs) := inferInstanceAs (Decidable (xs.length = 32 ∧ ∀ z ∈ xs, 0 ≤ z ∧ z ≤ 255))

/-- An entry's leaf. -/
def mkLf (e : Ent) : Lf := if h : Key e.1 then ⟨e.1, vaD e.2, h, dig_length _, dig_by _⟩ else default
theorem mkLf_key {e : Ent} (h : Key e.1) : (mkLf e).key = e.1 := by rw [mkLf, dif_pos h]
theorem mkLf_val {e : Ent} (h : Key e.1) : (mkLf e).val = vaD e.2 := by rw [mkLf, dif_pos h]

theorem side_map (l : List Ent) (d : Nat) (b : Int) (hd : d < 256) (hk : ∀ e ∈ l, Key e.1) : sdL (l.map mkLf) d b = (sideOf l d b).map mkLf := by
  unfold sdL sideOf
  rw [List.filter_map]
  congr 1
  apply List.filter_congr
  intro e he
  simp only [Function.comp]
  rw [mkLf_key (hk e he), kbi_in _ _ hd]

theorem rt_map : ∀ (n d : Nat) (l : List Ent), d + n = 256 → (∀ e ∈ l, Key e.1) → rtL n d (l.map mkLf) = rt n d l := by
  intro n
  induction n with
  | zero =>
    intro d l _ hk
    match l, hk with
    | [], _ => rfl
    | [e], hk => rw [List.map_singleton, rtL_one, rt_one, enD, mkLf_key (hk e (by simp)), mkLf_val (hk e (by simp))]
    | a :: b :: l, _ => rfl
  | succ n ih =>
    intro d l hd hk
    match l, hk with
    | [], _ => rfl
    | [e], hk => rw [List.map_singleton, rtL_one, rt_one, enD, mkLf_key (hk e (by simp)), mkLf_val (hk e (by simp))]
    | a :: b :: l, hk =>
      have hs : ∀ c, ∀ e ∈ sideOf (a :: b :: l) d c, Key e.1 := fun c e he => hk e (List.mem_filter.1 he).1
      rw [rtL_more n d _ (by simp), rt_more n d _ (by simp), side_map _ d 0 (by omega) hk, side_map _ d 1 (by omega) hk, ih (d + 1) _ (by omega) (hs 0), ih (d + 1) _ (by omega) (hs 1)]

end Go.Proofs.YtpihigcnoifcfaaGreatDoor
