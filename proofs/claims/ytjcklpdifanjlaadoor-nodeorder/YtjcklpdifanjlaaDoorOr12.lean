/- Leaves: a key and its value's digest; their order; where they part; the root of a list of leaves. No program in this text. -/
import Derived.Test.YtjcklpdifanjlaaDoorOr10
import Derived.Test.YtjcklpdifanjlaaDoorOr11
import Derived.Sort.Statements
import Derived.Deep.RegionHeld
import Derived.Deep.RegionHeld2
namespace Go.Proofs.YtjcklpdifanjlaaDoor
set_option maxRecDepth 20000
open Go.RowKit

structure Lf where
  key : List Int
  val : List Int
  hk : Key key
  hl : val.length = 32
  hb : Bytes val

instance : Inhabited Lf := ⟨⟨z32, z32, ⟨rfl, z32_bytes⟩, rfl, z32_bytes⟩⟩

theorem Lf.nd (x : Lf) : Nd 1 x.key x.val z32 z32 := ⟨by omega, by omega, x.hk.1, x.hl, rfl, rfl, x.hk.2, x.hb, z32_bytes, z32_bytes⟩
def Lf.ints (x : Lf) : List Int := Go.Proofs.YtjcklpdifanjlaaDoor.nd 1 x.key x.val z32 z32
theorem Lf.ints_length (x : Lf) : x.ints.length = 129 := x.nd.length
def encLf (x : Lf) : List Value := x.ints.map (Value.int .u8)
theorem encLf_length (x : Lf) : (encLf x).length = 129 := by simp [encLf, x.ints_length]
theorem encLf_one (x : Lf) : ∀ v ∈ encLf x, v.oneCell' = true := fun v hv => by
  obtain ⟨z, _, rfl⟩ := List.mem_map.1 hv
  rfl
theorem encLf_array (x : Lf) : (encLf x).toArray = B (Go.Proofs.YtjcklpdifanjlaaDoor.nd 1 x.key x.val z32 z32) := rfl

def cfLf (x y : Lf) : Int := cmp x.key y.key

theorem Ahead.trans {a b c : List Int} (h : Ahead a b) (k : Ahead b c) : Ahead a c := by
  obtain ⟨i, hi, h1, h2, h3⟩ := h
  obtain ⟨j, hj, k1, k2, k3⟩ := k
  rcases Nat.lt_trichotomy i j with e | e | e
  · exact ⟨i, hi, fun q hq => (h1 q hq).trans (k1 q (by omega)), h2, by rw [← k1 i e]; exact h3⟩
  · subst e
    omega
  · exact ⟨j, hj, fun q hq => (h1 q (by omega)).trans (k1 q hq), by rw [h1 j e]; exact k2, k3⟩
theorem Ahead.irrefl (a : List Int) : ¬ Ahead a a := fun ⟨_, _, _, h2, h3⟩ => by omega
theorem ahead_total {a b : List Int} (ha : Key a) (hb : Key b) (h : ¬ Ahead a b) : a = b ∨ Ahead b a := by
  rcases cmp_key ha hb with ⟨_, e⟩ | ⟨_, e⟩ | ⟨_, e⟩
  · exact .inl e
  · exact absurd e h
  · exact .inr e

theorem cfLf_lt (x y : Lf) : decide (cfLf x y < 0) = true ↔ Ahead x.key y.key := by
  rw [decide_eq_true_iff]
  exact cmp_lt x.hk y.hk

theorem swoLf : Go.Sort.SWO (fun x y : Lf => decide (cfLf x y < 0)) where
  irrefl x := by
    rw [← Bool.not_eq_true, cfLf_lt]
    exact Ahead.irrefl _
  trans x y z h1 h2 := by
    rw [cfLf_lt] at *
    exact h1.trans h2
  ntrans x y z h1 h2 := by
    rw [← Bool.not_eq_true, cfLf_lt] at *
    intro h3
    rcases ahead_total x.hk y.hk h1 with e | e
    · rw [e] at h3
      exact h2 h3
    · exact h2 (e.trans h3)

/-- Rising, by key. -/
def Rise (l : List Lf) : Prop := l.Pairwise fun a b => Ahead a.key b.key
theorem Rise.sub {l m : List Lf} (h : Rise l) (k : m.Sublist l) : Rise m := h.sublist k

/-- All keys have the same first d bits. -/
def Same (l : List Lf) (d : Nat) : Prop := ∀ a ∈ l, ∀ b ∈ l, ∀ j, j < d → kb a.key j = kb b.key j
theorem Same.sub {l m : List Lf} {d : Nat} (h : Same l d) (k : ∀ x ∈ m, x ∈ l) : Same m d := fun a ha b hb j hj => h a (k a ha) b (k b hb) j hj

def sdL (l : List Lf) (d : Nat) (b : Int) : List Lf := l.filter fun x => kb x.key d == b
theorem Same.side {l : List Lf} {d : Nat} (b : Int) (h : Same l d) : Same (sdL l d b) (d + 1) := by
  intro x hx y hy j hj
  unfold sdL at hx hy
  rw [List.mem_filter, beq_iff_eq] at hx hy
  by_cases e : j = d
  · rw [e, hx.2, hy.2]
  · exact h x hx.1 y hy.1 j (by omega)
theorem Rise.side {l : List Lf} (d : Nat) (b : Int) (h : Rise l) : Rise (sdL l d b) := h.sub List.filter_sublist

theorem kb_bit (a : List Int) (d : Nat) : kb a d = 0 ∨ kb a d = 1 := by
  unfold kb bt
  omega

/-- As they rise and have the same first d bits, those whose bit d is 0 stand ahead. -/
theorem part_at : ∀ (l : List Lf) (d : Nat), d < 256 → Rise l → Same l d → l.take (l.countP fun x => !(kb x.key d == 1)) = sdL l d 0 ∧ l.drop (l.countP fun x => !(kb x.key d == 1)) = sdL l d 1
  | [], d, _, _, _ => ⟨rfl, rfl⟩
  | a :: r, d, hd, hr, hs => by
    have hr' : Rise r := (List.pairwise_cons.1 hr).2
    have hs' : Same r d := hs.sub fun x hx => by simp [hx]
    obtain ⟨i1, i2⟩ := part_at r d hd hr' hs'
    rcases kb_bit a.key d with e | e
    · have e1 : (kb a.key d == 1) = false := by simp [e]
      have e0 : (kb a.key d == 0) = true := by simp [e]
      rw [List.countP_cons_of_pos (by simp [e1])]
      constructor
      · rw [List.take_succ_cons, i1]
        unfold sdL
        rw [List.filter_cons_of_pos (p := fun x : Lf => kb x.key d == 0) e0]
      · rw [List.drop_succ_cons, i2]
        unfold sdL
        rw [List.filter_cons_of_neg (by simp [e1])]
    · have hall : ∀ x ∈ r, kb x.key d = 1 := by
        intro x hx
        rcases kb_bit x.key d with q | q
        · have h1 : Ahead x.key a.key := ⟨d, hd, fun j hj => hs x (by simp [hx]) a (by simp) j hj, q, e⟩
          exact absurd (((List.pairwise_cons.1 hr).1 x hx).trans h1) (Ahead.irrefl _)
        · exact q
      have e1 : (kb a.key d == 1) = true := by simp [e]
      have hc : (a :: r).countP (fun x => !(kb x.key d == 1)) = 0 := by
        rw [List.countP_eq_zero]
        intro x hx
        rcases List.mem_cons.1 hx with rfl | hx
        · simp [e1]
        · simp [hall x hx]
      rw [hc]
      constructor
      · rw [List.take_zero]
        symm
        unfold sdL
        rw [List.filter_eq_nil_iff]
        intro x hx
        rcases List.mem_cons.1 hx with rfl | hx
        · simp [e]
        · simp [hall x hx]
      · rw [List.drop_zero]
        symm
        unfold sdL
        rw [List.filter_eq_self]
        intro x hx
        rcases List.mem_cons.1 hx with rfl | hx
        · exact e1
        · simp [hall x hx]

/-- Once one bit is 1, all behind it are. -/
theorem part_mono (l : List Lf) (d : Nat) (hd : d < 256) (hr : Rise l) (hs : Same l d) : ∀ a b, a ≤ b → b < l.length → (kb l[a]!.key d == 1) = true → (kb l[b]!.key d == 1) = true := by
  intro a b hab hb h1
  rcases Nat.lt_or_eq_of_le hab with e | e
  · have ha : a < l.length := by omega
    rw [getElem!_pos l a ha] at h1
    rw [getElem!_pos l b hb]
    have hA := List.pairwise_iff_getElem.1 hr a b ha hb e
    rcases kb_bit l[b].key d with q | q
    · have h2 : Ahead l[b].key l[a].key := ⟨d, hd, fun j hj => hs _ (List.getElem_mem hb) _ (List.getElem_mem ha) j hj, q, by simpa using h1⟩
      exact absurd (hA.trans h2) (Ahead.irrefl _)
    · simp [q]
  · rw [← e]
    exact h1

/-- The root of leaves at the depth d; n: how many depths are left. -/
def rtL : Nat → Nat → List Lf → List Int
  | _, _, [] => emD
  | _, _, [x] => lfD x.key x.val
  | 0, _, _ :: _ :: _ => inD emD emD
  | n + 1, d, a :: b :: l => inD (rtL n (d + 1) (sdL (a :: b :: l) d 0)) (rtL n (d + 1) (sdL (a :: b :: l) d 1))
theorem rtL_nil (n d : Nat) : rtL n d [] = emD := by cases n <;> rfl
theorem rtL_one (n d : Nat) (x : Lf) : rtL n d [x] = lfD x.key x.val := by cases n <;> rfl
theorem rtL_more (n d : Nat) (l : List Lf) (h : 2 ≤ l.length) : rtL (n + 1) d l = inD (rtL n (d + 1) (sdL l d 0)) (rtL n (d + 1) (sdL l d 1)) := by
  match l, h with
  | a :: b :: l, _ => rfl

theorem rtL_perm : ∀ (n d : Nat) (l m : List Lf), l.Perm m → rtL n d l = rtL n d m := by
  intro n
  induction n with
  | zero =>
    intro d l m h
    match l, m, h with
    | [], m, h => rw [List.nil_perm.1 h]
    | [e], m, h => rw [List.singleton_perm.1 h]
    | a :: b :: l, [], h => exact absurd h.length_eq (by simp)
    | a :: b :: l, [e], h => exact absurd h.length_eq (by simp)
    | a :: b :: l, c :: d :: m, h => rfl
  | succ n ih =>
    intro d l m h
    match l, m, h with
    | [], m, h => rw [List.nil_perm.1 h]
    | [e], m, h => rw [List.singleton_perm.1 h]
    | a :: b :: l, m, h =>
      have h2 : 2 ≤ m.length := by rw [← h.length_eq]; simp
      have hs : ∀ c, (sdL (a :: b :: l) d c).Perm (sdL m d c) := fun c => h.filter _
      rw [rtL_more n d _ (by simp), rtL_more n d m h2, ih (d + 1) _ _ (hs 0), ih (d + 1) _ _ (hs 1)]

/-- Leaves with the same 256 bits that rise are one at most. -/
theorem Rise.few {l : List Lf} (h : Rise l) (hs : Same l 256) : l.length ≤ 1 := by
  match l, h, hs with
  | [], _, _ => simp
  | [x], _, _ => simp
  | a :: b :: r, h, hs =>
    obtain ⟨c, hc, h1, h2, h3⟩ := (List.pairwise_cons.1 h).1 b (by simp)
    have := hs a (by simp) b (by simp) c hc
    omega

theorem dig_by (l : List Int) : Bytes (dig l) := dig_bytes l

instance (xs : List Int) : Decidable (Key xs) := inferInstanceAs (Decidable (xs.length = 32 ∧ ∀ z ∈ xs, 0 ≤ z ∧ z ≤ 255))

/-- An entry's leaf. -/
def mkLf (e : Ent) : Lf := if h : Key e.1 then ⟨e.1, vaD e.2, h, dig_length _, dig_by _⟩ else default
theorem mkLf_key {e : Ent} (h : Key e.1) : (mkLf e).key = e.1 := by rw [mkLf, dif_pos h]
theorem mkLf_val {e : Ent} (h : Key e.1) : (mkLf e).val = vaD e.2 := by rw [mkLf, dif_pos h]

theorem side_map (l : List Ent) (d : Nat) (b : Int) (hd : d < 256) (hk : ∀ e ∈ l, Key e.1) : sdL (l.map mkLf) d b = (sideOf l d b).map mkLf := by
  unfold sdL sideOf
  rw [List.filter_map]
  congr 1
  apply List.filter_congr
  intro e he
  simp only [Function.comp]
  rw [mkLf_key (hk e he), kbi_in _ _ hd]

theorem rt_map : ∀ (n d : Nat) (l : List Ent), d + n = 256 → (∀ e ∈ l, Key e.1) → rtL n d (l.map mkLf) = rt n d l := by
  intro n
  induction n with
  | zero =>
    intro d l _ hk
    match l, hk with
    | [], _ => rfl
    | [e], hk => rw [List.map_singleton, rtL_one, rt_one, enD, mkLf_key (hk e (by simp)), mkLf_val (hk e (by simp))]
    | a :: b :: l, _ => rfl
  | succ n ih =>
    intro d l hd hk
    match l, hk with
    | [], _ => rfl
    | [e], hk => rw [List.map_singleton, rtL_one, rt_one, enD, mkLf_key (hk e (by simp)), mkLf_val (hk e (by simp))]
    | a :: b :: l, hk =>
      have hs : ∀ c, ∀ e ∈ sideOf (a :: b :: l) d c, Key e.1 := fun c e he => hk e (List.mem_filter.1 he).1
      rw [rtL_more n d _ (by simp), rt_more n d _ (by simp), side_map _ d 0 (by omega) hk, side_map _ d 1 (by omega) hk, ih (d + 1) _ (by omega) (hs 0), ih (d + 1) _ (by omega) (hs 1)]

end Go.Proofs.YtjcklpdifanjlaaDoor

/- node.bare, Check, is, as contracts. -/
namespace Go.Proofs.YtjcklpdifanjlaaDoor
set_option maxRecDepth 20000
open Go.RowKit

/-- A node that may be. -/
def okN (k : Int) (a b c d : List Int) : Bool := decide ((k = 0 ∧ a = z32 ∧ b = z32 ∧ c = z32 ∧ d = z32) ∨ (k = 1 ∧ c = z32 ∧ d = z32) ∨ (k = 2 ∧ a = z32 ∧ b = z32))

theorem z_nd : Nd 0 z32 z32 z32 z32 := ⟨by omega, by omega, rfl, rfl, rfl, rfl, z32_bytes, z32_bytes, z32_bytes, z32_bytes⟩

def BarePost (k : Int) (a b c d : List Int) (w : World) (e : Ending) (w' : World) : Prop :=
  ∃ k' a' b' c' d', e = .returned (.agg (B (nd k' a' b' c' d'))) ∧ Nd k' a' b' c' d' ∧ okN k a b c d = decide (nd k a b c d = nd k' a' b' c' d') ∧ Below w.heap.size w w'

set_option maxHeartbeats 2000000 in
theorem bare_any (k : Int) (a b c d : List Int) (w : World) (h : Nd k a b c d) : Calls Tryd.prog 48 #[.agg (B (nd k a b c d))] w (BarePost k a b c d w) := by
  obtain ⟨fs, hu⟩ := u_node
  have HU := hidden hu
  have H := hidden h
  have H129 : Hid ((Tryd.prog.info? 27).map (·.size) = some (B (nd k a b c d)).size) := by show _ = _; rw [h.size, size_node]
  obtain ⟨N, hN⟩ : ∃ N, N = nd k a b c d := ⟨_, rfl⟩
  have HN := hidden hN
  rw [← hN] at H129 ⊢
  have hkd := fun w g t (q : Blk w g t (B N)) => Nd.kind (k := k) (a := a) (b := b) (c := c) (d := d) (by rw [← hN]; exact q)
  have HKD : Hid (∀ w g t, Blk w g t (B N) → w.cell? ⟨g, 0, none⟩ = some (.int .u8 k)) := hkd
  have SA : Hid (Seg N 1 a) := by rw [hN]; exact h.segA
  have SB : Hid (Seg N 33 b) := by rw [hN]; exact h.segB
  have SC : Hid (Seg N 65 c) := by rw [hN]; exact h.segC
  have SD : Hid (Seg N 97 d) := by rw [hN]; exact h.segD
  have LA : Hid ((Tryd.prog.info? 24).map (·.size) = some a.length) := by show _ = _; rw [h.la]; exact sz_path
  have LB : Hid ((Tryd.prog.info? 25).map (·.size) = some b.length) := by show _ = _; rw [h.lb]; exact sz_hash
  have LC : Hid ((Tryd.prog.info? 25).map (·.size) = some c.length) := by show _ = _; rw [h.lc]; exact sz_hash
  have LD : Hid ((Tryd.prog.info? 25).map (·.size) = some d.length) := by show _ = _; rw [h.ld]; exact sz_hash
  by_cases hk1 : k = 1
  · have HB : Hid (Tryd.prog.built 27 [(0, .int .u8 1), (1, .agg (B a)), (2, .agg (B b))] = some (B (nd 1 a b z32 z32))) := built_leaf a b h.la h.lb
    have HR : Hid (Nd 1 a b z32 z32) := ⟨by omega, by omega, h.la, h.lb, rfl, rfl, h.ba, h.bb, z32_bytes, z32_bytes⟩
    have HO : Hid (okN k a b c d = decide (nd k a b c d = nd 1 a b z32 z32)) := by
      show _ = _
      rw [Bool.eq_iff_iff, decide_eq_true_iff, nd_inj h HR.out]
      simp [okN, hk1]
    have q1 : (k == 1) = true := by simp [hk1]
    clear h hu hN hkd hk1
    go_enter Tryd.func48, Tryd.ntmps48
    go_wp2_with (first
      | ((with_reducible refine at_bx ?_); refine wpList_bx _ rfl _ _ rfl _ rfl ?_; intro w1 g1 hg1 hl1 B1 b1; have ck := HKD.out _ _ _ B1)
      | ((with_reducible refine at_al ?_); refine wpList_al _ rfl _ rfl _ zero_node ?_; intro w2 g2 hg2 hl2 B2 b2; have B1' := B1.grow b2; have ck2 := HKD.out _ _ _ B1')
      | ((with_reducible refine at_ld 7 ?_); refine wpList_ldm _ rfl _ _ rfl g1 1 _ _ a rfl B1' SA.out _ _ Tryd.underlying24 LA.out ?_)
      | ((with_reducible refine at_ld 9 ?_); refine wpList_ldm _ rfl _ _ rfl g1 33 _ _ b rfl B1' SB.out _ _ Tryd.underlying25 LB.out ?_)
      | ((with_reducible refine at_bd ?_); refine wpList_bld _ rfl _ _ rfl _ (by rw [List.map_toArray]; exact HB.out) ?_)
      | ((with_reducible refine at_st 2 ?_); refine wpList_sto _ rfl _ _ _ rfl g2 _ _ rfl rfl B2 (by rw [HR.out.size]; exact size_node) (by rw [HR.out.size]; rfl) (B_one _) ?_; intro w3 B3 g3))
    exact bodyPost_ret (v := .agg (B (nd 1 a b z32 z32))) (results_cell_row rfl _ _ g2 _ _ _ _ rfl B3 HU.out rfl (by rw [HR.out.size]; exact size_node)) rfl ⟨_, _, _, _, _, rfl, HR.out, HO.out, below_row (grow_trans b1 b2) g3 (Nat.le_trans b1.size hg2)⟩
  · have q1 : (k == 1) = false := by simp [hk1]
    by_cases hk2 : k = 2
    · have HB : Hid (Tryd.prog.built 27 [(0, .int .u8 2), (3, .agg (B c)), (4, .agg (B d))] = some (B (nd 2 z32 z32 c d))) := built_inner c d h.lc h.ld
      have HR : Hid (Nd 2 z32 z32 c d) := ⟨by omega, by omega, rfl, rfl, h.lc, h.ld, z32_bytes, z32_bytes, h.bc, h.bd⟩
      have HO : Hid (okN k a b c d = decide (nd k a b c d = nd 2 z32 z32 c d)) := by
        show _ = _
        rw [Bool.eq_iff_iff, decide_eq_true_iff, nd_inj h HR.out]
        simp [okN, hk2]
      have q2 : (k == 2) = true := by simp [hk2]
      clear h hu hN hkd hk1 hk2
      go_enter Tryd.func48, Tryd.ntmps48
      go_wp2_with (first
        | ((with_reducible refine at_bx ?_); refine wpList_bx _ rfl _ _ rfl _ rfl ?_; intro w1 g1 hg1 hl1 B1 b1; have ck := HKD.out _ _ _ B1)
        | ((with_reducible refine at_al ?_); refine wpList_al _ rfl _ rfl _ zero_node ?_; intro w2 g2 hg2 hl2 B2 b2; have B1' := B1.grow b2; have ck2 := HKD.out _ _ _ B1')
        | ((with_reducible refine at_ld 14 ?_); refine wpList_ldm _ rfl _ _ rfl g1 65 _ _ c rfl B1' SC.out _ _ Tryd.underlying25 LC.out ?_)
        | ((with_reducible refine at_ld 16 ?_); refine wpList_ldm _ rfl _ _ rfl g1 97 _ _ d rfl B1' SD.out _ _ Tryd.underlying25 LD.out ?_)
        | ((with_reducible refine at_bd ?_); refine wpList_bld _ rfl _ _ rfl _ (by rw [List.map_toArray]; exact HB.out) ?_)
        | ((with_reducible refine at_st 2 ?_); refine wpList_sto _ rfl _ _ _ rfl g2 _ _ rfl rfl B2 (by rw [HR.out.size]; exact size_node) (by rw [HR.out.size]; rfl) (B_one _) ?_; intro w3 B3 g3))
      exact bodyPost_ret (v := .agg (B (nd 2 z32 z32 c d))) (results_cell_row rfl _ _ g2 _ _ _ _ rfl B3 HU.out rfl (by rw [HR.out.size]; exact size_node)) rfl ⟨_, _, _, _, _, rfl, HR.out, HO.out, below_row (grow_trans b1 b2) g3 (Nat.le_trans b1.size hg2)⟩
    · have HB : Hid (Tryd.prog.built 27 [] = some (B (nd 0 z32 z32 z32 z32))) := built_empty
      have HR : Hid (Nd 0 z32 z32 z32 z32) := z_nd
      have HO : Hid (okN k a b c d = decide (nd k a b c d = nd 0 z32 z32 z32 z32)) := by
        show _ = _
        rw [Bool.eq_iff_iff, decide_eq_true_iff, nd_inj h HR.out]
        simp [okN, hk1, hk2]
      have q2 : (k == 2) = false := by simp [hk2]
      clear h hu hN hkd hk1 hk2
      go_enter Tryd.func48, Tryd.ntmps48
      go_wp2_with (first
        | ((with_reducible refine at_bx ?_); refine wpList_bx _ rfl _ _ rfl _ rfl ?_; intro w1 g1 hg1 hl1 B1 b1; have ck := HKD.out _ _ _ B1)
        | ((with_reducible refine at_al ?_); refine wpList_al _ rfl _ rfl _ zero_node ?_; intro w2 g2 hg2 hl2 B2 b2; have B1' := B1.grow b2; have ck2 := HKD.out _ _ _ B1')
        | ((with_reducible refine at_bd ?_); refine wpList_bld _ rfl _ _ rfl _ (by rw [List.map_toArray]; exact HB.out) ?_)
        | ((with_reducible refine at_st 2 ?_); refine wpList_sto _ rfl _ _ _ rfl g2 _ _ rfl rfl B2 (by rw [HR.out.size]; exact size_node) (by rw [HR.out.size]; rfl) (B_one _) ?_; intro w3 B3 g3))
      exact bodyPost_ret (v := .agg (B (nd 0 z32 z32 z32 z32))) (results_cell_row rfl _ _ g2 _ _ _ _ rfl B3 HU.out rfl (by rw [HR.out.size]; exact size_node)) rfl ⟨_, _, _, _, _, rfl, HR.out, HO.out, below_row (grow_trans b1 b2) g3 (Nat.le_trans b1.size hg2)⟩

def okE (k : Int) (a b c d : List Int) : Int := if okN k a b c d = true then 0 else 2

set_option maxHeartbeats 2000000 in
theorem check_any (k : Int) (a b c d : List Int) (w : World) (h : Nd k a b c d) : Calls Tryd.prog 15 #[.agg (B (nd k a b c d))] w fun e w' => e = .returned (.int .i64 (okE k a b c d)) ∧ Below w.heap.size w w' := by
  obtain ⟨fs, hu⟩ := u_node
  have HU := hidden hu
  have H := hidden h
  have H129 : Hid ((Tryd.prog.info? 27).map (·.size) = some (B (nd k a b c d)).toList.length) := by show _ = _; rw [Array.length_toList, h.size, size_node]
  have HC : Hid (∀ w', Calls Tryd.prog 48 #[.agg (B (nd k a b c d))] w' (BarePost k a b c d w')) := fun w' => bare_any k a b c d w' h
  have HEQ : Hid (∀ k' a' b' c' d', Nd k' a' b' c' d' → ∀ w, (Op.equalIn 10000 27 (.agg (B (nd k a b c d))) (.agg (B (nd k' a' b' c' d')))).run Tryd.prog w = .ok (decide (nd k a b c d = nd k' a' b' c' d')) w) := fun k' a' b' c' d' h' w => node_eq h h' w
  obtain ⟨r, hr⟩ : ∃ r, r = okN k a b c d := ⟨_, rfl⟩
  have HO : Hid (okE k a b c d = if r = true then 0 else 2) := by show _ = _; rw [okE, hr]
  rw [HO.out]
  have HP : Hid (∀ w e w', BarePost k a b c d w e w' → ∃ M, e = .returned (.agg (B M)) ∧ (∀ w, (Op.equalIn 10000 27 (.agg (B (nd k a b c d))) (.agg (B M))).run Tryd.prog w = .ok r w) ∧ Below w.heap.size w w') := by
    rintro w e w' ⟨k', a', b', c', d', rfl, hn, ho, hb⟩
    refine ⟨_, rfl, fun w => ?_, hb⟩
    rw [HEQ.out k' a' b' c' d' hn w, hr, ho]
  obtain ⟨N, hN⟩ : ∃ N, N = nd k a b c d := ⟨_, rfl⟩
  rw [← hN] at H129 HC HP ⊢
  clear h hu hN hr HEQ
  go_enter Tryd.func15, Tryd.ntmps15
  go_wp2_with (first
    | ((with_reducible refine at_bx ?_); refine wpList_bx _ rfl _ _ rfl _ rfl ?_; intro w1 g1 hg1 hl1 B1 b1))
  have HS : Hid (∀ w', Below w1.heap.size w1 w' → w'.rangeAt g1 0 (B N).toList) := fun w' hw' => (B1.grow hw').range
  have d0 : Below w1.heap.size w1 w1.drew := (Below.refl _ _).drew
  refine wp_region_held_drew (S := fun w' => w'.rangeAt g1 0 (B N).toList) (by kernel_rfl) (HS.out _ d0) (fun hHeld => ?_)
  refine wpAnyH_take (i := 0) (v := .agg (B N)) rfl (by kernel_rfl) (by kernel_rfl) (by kernel_rfl) (fun _ _ _ h => h) (yieldsIf_load_mid rfl 27 (.tmp 1) rfl g1 0 rfl (B N).toList _ (fun w hS => hS) HU.out rfl H129.out) hHeld ?_
  simp only [Act.put, List.getElem_toArray, List.getElem_cons_zero, List.setIfInBounds_toArray, List.set_cons_zero, List.set_cons_succ]
  refine wpAnyH_take (i := 1) (v := .agg (B N)) rfl (by kernel_rfl) (by kernel_rfl) (by kernel_rfl) (fun _ _ _ h => h) (yieldsIf_load_mid rfl 27 (.tmp 1) rfl g1 0 rfl (B N).toList _ (fun w hS => hS) HU.out rfl H129.out) hHeld ?_
  simp only [Act.put, List.getElem_toArray, List.getElem_cons_zero, List.getElem_cons_succ, List.setIfInBounds_toArray, List.set_cons_zero, List.set_cons_succ]
  refine wpAnyH_ready (rs := [2]) (by kernel_rfl) (by simp) ?_
  refine AllReadyH.cons rfl (fun KQ hK => ?_) AllReadyH.nil
  go_simp
  refine (HC.out _).mono ?_
  intro e x1 hx
  obtain ⟨M, rfl, hEq, a1⟩ := HP.out _ _ _ hx
  clear hx
  have d1 := grow_trans d0 a1
  refine hK.out _ _ (HS.out _ d1) (fun hHeld => ?_)
  clear hK KQ
  refine wpAnyH_take (i := 3) (v := .bool (!r)) rfl (by kernel_rfl) (by kernel_rfl) (by kernel_rfl) (fun _ _ _ h => h) (Or.inl ⟨by rfl, fun w hS => by (go_simp; skip)⟩) hHeld ?_
  simp only [Act.put, List.getElem_toArray, List.getElem_cons_zero, List.getElem_cons_succ, List.setIfInBounds_toArray, List.set_cons_zero, List.set_cons_succ]
  refine wpAnyH_done (by kernel_rfl) ?_ _
  clear hEq
  cases r
  · go_wp2_with fail
    go_ret
    exact ⟨rfl, grow_trans b1 d1⟩
  · go_wp2_with fail
    go_ret
    exact ⟨rfl, grow_trans b1 d1⟩

end Go.Proofs.YtjcklpdifanjlaaDoor
