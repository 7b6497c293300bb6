/- The root of entries and a key's way among them, by definition, with no word of the program; that the root hangs on no order, that it is both sides' roots, and that a way leads up to it. -/
import Derived.Test.YtegegoapcdmlhaaGreatDoorDn06
import Derived.Test.YtegegoapcdmlhaaGreatDoorDn04
import Derived.WalkKit
namespace Go.Proofs.YtegegoapcdmlhaaGreatDoor
set_option maxRecDepth 20000
open Go.RowKit

/-- An entry: a key's bytes, a value's bytes. -/
abbrev Ent := List Int × List Int

/-- The digests of a tree's nodes. -/
def emD : List Int := dig [0]
def lfD (K V : List Int) : List Int := dig (1 :: (K ++ V))
def inD (a b : List Int) : List Int := dig (2 :: (a ++ b))
def vaD (V : List Int) : List Int := dig (3 :: V)
def enD (e : Ent) : List Int := lfD e.1 (vaD e.2)

/-- The entries whose bit d is this one, in their order. -/
def sideOf (l : List Ent) (d : Nat) (b : Int) : List Ent := l.filter fun e => kbi e.1 d == b

/-- The root at the depth d; n: how many depths are left. -/
def rt : Nat → Nat → List Ent → List Int
  | _, _, [] => emD
  | _, _, [e] => enD e
  | 0, _, _ :: _ :: _ => inD emD emD
  | n + 1, d, a :: b :: l => inD (rt n (d + 1) (sideOf (a :: b :: l) d 0)) (rt n (d + 1) (sideOf (a :: b :: l) d 1))

theorem rt_nil (n d : Nat) : rt n d [] = emD := by cases n <;> rfl
theorem rt_one (n d : Nat) (e : Ent) : rt n d [e] = enD e := by cases n <;> rfl
theorem rt_more (n d : Nat) (l : List Ent) (h : 2 ≤ l.length) : rt (n + 1) d l = inD (rt n (d + 1) (sideOf l d 0)) (rt n (d + 1) (sideOf l d 1)) := by
  match l, h with
  | a :: b :: l, _ => rfl

/-- It hangs on no order. -/
theorem rt_perm : ∀ (n d : Nat) (l m : List Ent), l.Perm m → rt n d l = rt n d m := by
  intro n
  induction n with
  | zero =>
    intro d l m h
    match l, m, h with
    | [], m, h => rw [List.nil_perm.1 h]
    | [e], m, h => rw [List.singleton_perm.1 h]
    | a :: b :: l, [], h => exact absurd h.length_eq (by simp)
    | a :: b :: l, [e], h => exact absurd h.length_eq (by simp)
    | a :: b :: l, c :: d :: m, h => rfl
  | succ n ih =>
    intro d l m h
    match l, m, h with
    | [], m, h => rw [List.nil_perm.1 h]
    | [e], m, h => rw [List.singleton_perm.1 h]
    | a :: b :: l, m, h =>
      have h2 : 2 ≤ m.length := by rw [← h.length_eq]; simp
      have hs : ∀ c, (sideOf (a :: b :: l) d c).Perm (sideOf m d c) := fun c => h.filter _
      rw [rt_more n d _ (by simp), rt_more n d m h2, ih (d + 1) _ _ (hs 0), ih (d + 1) _ _ (hs 1)]

/-- No two entries have the same key. -/
def Apart1 (l : List Ent) : Prop := l.Pairwise fun a b => a.1 ≠ b.1
theorem Apart1.side {l : List Ent} (h : Apart1 l) (d : Nat) (b : Int) : Apart1 (sideOf l d b) := h.sublist List.filter_sublist

/-- All keys have key's first d bits. -/
def Share (l : List Ent) (key : List Int) (d : Nat) : Prop := ∀ e ∈ l, ∀ j, j < d → kb e.1 j = kb key j

theorem kbi_in (xs : List Int) (d : Nat) (h : d < 256) : kbi xs d = kb xs d := by
  unfold kbi
  rw [if_pos (by omega)]
  rfl

theorem Share.side {l : List Ent} {key : List Int} {d : Nat} (hd : d < 256) (h : Share l key d) : Share (sideOf l d (kb key d)) key (d + 1) := by
  intro e he j hj
  unfold sideOf at he
  rw [List.mem_filter] at he
  rcases Nat.lt_or_ge j d with q | q
  · exact h e he.1 j q
  · have : j = d := by omega
    subst this
    have := he.2
    rw [beq_iff_eq, kbi_in _ _ hd] at this
    exact this

/-- With all bits shared at most one entry is left. -/
theorem Share.few {l : List Ent} {key : List Int} (hk : ∀ e ∈ l, Key e.1) (ha : Apart1 l) (h : Share l key 256) : l.length ≤ 1 := by
  match l, hk, ha, h with
  | [], _, _, _ => simp
  | [e], _, _, _ => simp
  | a :: b :: l, hk, ha, h =>
    exfalso
    have h1 := List.rel_of_pairwise_cons ha (List.mem_cons_self (a := b) (l := l))
    exact h1 (key_ext (hk a (by simp)) (hk b (by simp)) fun j hj => by rw [h a (by simp) j hj, h b (by simp) j hj])

/-- The sides of a key's way, from the depth d on. -/
def sds : Nat → Nat → List Ent → List Int → List (List Int)
  | 0, _, _, _ => []
  | n + 1, d, l, key => if l.length ≤ 1 then [] else rt n (d + 1) (sideOf l d (1 - kb key d)) :: sds n (d + 1) (sideOf l d (kb key d)) key
/-- What is left at its end. -/
def rst : Nat → Nat → List Ent → List Int → List Ent
  | 0, _, l, _ => l
  | n + 1, d, l, key => if l.length ≤ 1 then l else rst n (d + 1) (sideOf l d (kb key d)) key

/-- Up from a digest: the sides from the last to the first. -/
def upD (key : List Int) : Nat → List (List Int) → List Int → List Int
  | _, [], h => h
  | d, s :: r, h => if kb key d = 0 then inD (upD key (d + 1) r h) s else inD s (upD key (d + 1) r h)

theorem sds_length : ∀ (n d : Nat) (l : List Ent) (key : List Int), (sds n d l key).length ≤ n := by
  intro n
  induction n with
  | zero => intro d l key; simp [sds]
  | succ n ih =>
    intro d l key
    unfold sds
    by_cases h : l.length ≤ 1
    · rw [if_pos h]; simp
    · rw [if_neg h]
      have := ih (d + 1) (sideOf l d (kb key d)) key
      simp only [List.length_cons]
      omega

/-- A key's way leads up to the root, and at most one entry is at its end. -/
theorem up_way : ∀ (n d : Nat) (l : List Ent) (key : List Int), d + n = 256 → (∀ e ∈ l, Key e.1) → Apart1 l → Share l key d → (rst n d l key).length ≤ 1 ∧ upD key d (sds n d l key) (rt 0 0 (rst n d l key)) = rt n d l := by
  have few : ∀ (n d : Nat) (l : List Ent), l.length ≤ 1 → rt 0 0 l = rt n d l := by
    intro n d l h
    match l, h with
    | [], _ => rw [rt_nil, rt_nil]
    | [e], _ => rw [rt_one, rt_one]
  intro n
  induction n with
  | zero =>
    intro d l key hd hk ha hs
    have hd' : d = 256 := by omega
    subst hd'
    have h := hs.few hk ha
    exact ⟨h, few 0 256 l h⟩
  | succ n ih =>
    intro d l key hd hk ha hs
    unfold rst sds
    by_cases h : l.length ≤ 1
    · rw [if_pos h, if_pos h]
      exact ⟨h, few _ _ l h⟩
    · rw [if_neg h, if_neg h]
      obtain ⟨i1, i2⟩ := ih (d + 1) (sideOf l d (kb key d)) key (by omega) (fun e he => hk e (List.mem_filter.1 he).1) (ha.side _ _) (hs.side (by omega))
      refine ⟨i1, ?_⟩
      rw [rt_more n d l (by omega)]
      unfold upD
      rw [i2]
      rcases kb_two key d with q | q
      · rw [if_pos q, q]
        rfl
      · rw [if_neg (by omega), q]
        rfl

/-- What is left at the end of a key's way are the entries with that key, if there are any. -/
theorem rst_mem : ∀ (n d : Nat) (l : List Ent) (key : List Int) (e : Ent), d + n = 256 → e ∈ l → e.1 = key → e ∈ rst n d l key := by
  intro n
  induction n with
  | zero => intro d l key e _ he _; exact he
  | succ n ih =>
    intro d l key e hd he hk
    unfold rst
    by_cases h : l.length ≤ 1
    · rw [if_pos h]; exact he
    · rw [if_neg h]
      refine ih (d + 1) _ key e (by omega) ?_ hk
      unfold sideOf
      rw [List.mem_filter, beq_iff_eq, kbi_in _ _ (by omega), hk]
      exact ⟨he, rfl⟩
theorem rst_sub : ∀ (n d : Nat) (l : List Ent) (key : List Int) (e : Ent), e ∈ rst n d l key → e ∈ l := by
  intro n
  induction n with
  | zero => intro d l key e he; exact he
  | succ n ih =>
    intro d l key e he
    unfold rst at he
    by_cases h : l.length ≤ 1
    · rw [if_pos h] at he; exact he
    · rw [if_neg h] at he
      exact (List.mem_filter.1 (ih _ _ _ _ he)).1

end Go.Proofs.YtegegoapcdmlhaaGreatDoor

/- Looks at the operation that comes next, and nothing else: so that a law is tried there alone (under 'with_reducible'). -/
namespace Go.Proofs.YtegegoapcdmlhaaGreatDoor
set_option maxRecDepth 20000
open Go.RowKit

theorem at_ld {P : Program} {ops : Array Oper} {Q : Exit → Act → World → Prop} {rest : List Oper} {a : Act} {w : World} {dst : Option Tmp} {ty t : TypeId} {p : String} {f : Array Edge} {g : Option (Nat × Bool)} (s : Nat)
    (h : wpList P ops Q (Oper.mk dst (.load ty (.tmp s)) t p f g :: rest) a w) : wpList P ops Q (Oper.mk dst (.load ty (.tmp s)) t p f g :: rest) a w := h

theorem at_ldd {P : Program} {ops : Array Oper} {Q : Exit → Act → World → Prop} {rest : List Oper} {a : Act} {w : World} {ty t : TypeId} {p : String} {f : Array Edge} {g : Option (Nat × Bool)} (k s : Nat)
    (h : wpList P ops Q (Oper.mk (some k) (.load ty (.tmp s)) t p f g :: rest) a w) : wpList P ops Q (Oper.mk (some k) (.load ty (.tmp s)) t p f g :: rest) a w := h

theorem at_st {P : Program} {ops : Array Oper} {Q : Exit → Act → World → Prop} {rest : List Oper} {a : Act} {w : World} {dst : Option Tmp} {ty t : TypeId} {p : String} {f : Array Edge} {g : Option (Nat × Bool)} {y : Operand} (s : Nat)
    (h : wpList P ops Q (Oper.mk dst (.store ty (.tmp s) y) t p f g :: rest) a w) : wpList P ops Q (Oper.mk dst (.store ty (.tmp s) y) t p f g :: rest) a w := h

theorem at_al {P : Program} {ops : Array Oper} {Q : Exit → Act → World → Prop} {rest : List Oper} {a : Act} {w : World} {dst : Option Tmp} {ty t : TypeId} {p : String} {f : Array Edge} {g : Option (Nat × Bool)} 
    (h : wpList P ops Q (Oper.mk dst (.alloc ty) t p f g :: rest) a w) : wpList P ops Q (Oper.mk dst (.alloc ty) t p f g :: rest) a w := h

theorem at_bx {P : Program} {ops : Array Oper} {Q : Exit → Act → World → Prop} {rest : List Oper} {a : Act} {w : World} {dst : Option Tmp} {ty t : TypeId} {p : String} {f : Array Edge} {g : Option (Nat × Bool)} {x : Operand}
    (h : wpList P ops Q (Oper.mk dst (.box ty x) t p f g :: rest) a w) : wpList P ops Q (Oper.mk dst (.box ty x) t p f g :: rest) a w := h

theorem at_bd {P : Program} {ops : Array Oper} {Q : Exit → Act → World → Prop} {rest : List Oper} {a : Act} {w : World} {dst : Option Tmp} {ty t : TypeId} {p : String} {f : Array Edge} {g : Option (Nat × Bool)} {x : Array (Nat × Operand)}
    (h : wpList P ops Q (Oper.mk dst (.build ty x) t p f g :: rest) a w) : wpList P ops Q (Oper.mk dst (.build ty x) t p f g :: rest) a w := h

theorem at_ald {P : Program} {ops : Array Oper} {Q : Exit → Act → World → Prop} {rest : List Oper} {a : Act} {w : World} {ty t : TypeId} {p : String} {f : Array Edge} {g : Option (Nat × Bool)} (k : Nat)
    (h : wpList P ops Q (Oper.mk (some k) (.alloc ty) t p f g :: rest) a w) : wpList P ops Q (Oper.mk (some k) (.alloc ty) t p f g :: rest) a w := h

theorem at_bxd {P : Program} {ops : Array Oper} {Q : Exit → Act → World → Prop} {rest : List Oper} {a : Act} {w : World} {ty t : TypeId} {p : String} {f : Array Edge} {g : Option (Nat × Bool)} {x : Operand} (k : Nat)
    (h : wpList P ops Q (Oper.mk (some k) (.box ty x) t p f g :: rest) a w) : wpList P ops Q (Oper.mk (some k) (.box ty x) t p f g :: rest) a w := h

theorem at_cd {P : Program} {ops : Array Oper} {Q : Exit → Act → World → Prop} {rest : List Oper} {a : Act} {w : World} {t : TypeId} {p : String} {f : Array Edge} {g : Option (Nat × Bool)} {c : Call} (k : Nat)
    (h : wpList P ops Q (Oper.mk (some k) (.call c) t p f g :: rest) a w) : wpList P ops Q (Oper.mk (some k) (.call c) t p f g :: rest) a w := h

theorem at_bdd {P : Program} {ops : Array Oper} {Q : Exit → Act → World → Prop} {rest : List Oper} {a : Act} {w : World} {ty t : TypeId} {p : String} {f : Array Edge} {g : Option (Nat × Bool)} {x : Array (Nat × Operand)} (k : Nat)
    (h : wpList P ops Q (Oper.mk (some k) (.build ty x) t p f g :: rest) a w) : wpList P ops Q (Oper.mk (some k) (.build ty x) t p f g :: rest) a w := h

end Go.Proofs.YtegegoapcdmlhaaGreatDoor

/- Nodes by value: 129 bytes in a row: a kind, and four arrays of 32. Their parts, their literals, and that two are held against each other whole. -/
namespace Go.Proofs.YtegegoapcdmlhaaGreatDoor
set_option maxRecDepth 20000
open Go.RowKit

/-- xs lies in zs from o on. -/
def Seg (zs : List Int) (o : Nat) (xs : List Int) : Prop := ∀ j v, xs[j]? = some v → zs[o + j]? = some v

theorem Seg.mid (p xs q : List Int) (o : Nat) (h : p.length = o) : Seg (p ++ (xs ++ q)) o xs := fun j v hj => by
  have hlt : j < xs.length := (List.getElem?_eq_some_iff.1 hj).1
  rw [List.getElem?_append_right (by omega), show o + j - p.length = j by omega, List.getElem?_append_left hlt]
  exact hj

theorem Seg.range {w : World} {g : Nat} {t : TypeId} {zs xs : List Int} {o : Nat} (h : Seg zs o xs) (hb : Blk w g t (B zs)) : w.rangeAt g o (xs.map (Value.int .u8)) := fun j v hv => by
  rw [hb.cell]
  simp only [List.getElem?_map, Option.map_eq_some_iff] at hv
  obtain ⟨z, hz, rfl⟩ := hv
  simp [B, h j z hz]

/-- A node: its kind, its key, its value's digest, both sides'. -/
def nd (k : Int) (a b c d : List Int) : List Int := k :: (a ++ (b ++ (c ++ d)))
def z32 : List Int := List.replicate 32 0
theorem z32_length : z32.length = 32 := rfl
theorem z32_bytes : Bytes z32 := fun z hz => by rw [List.eq_of_mem_replicate hz]; omega

/-- What a node's fields are. -/
structure Nd (k : Int) (a b c d : List Int) : Prop where
  k0 : 0 ≤ k
  k1 : k < 256
  la : a.length = 32
  lb : b.length = 32
  lc : c.length = 32
  ld : d.length = 32
  ba : Bytes a
  bb : Bytes b
  bc : Bytes c
  bd : Bytes d

theorem Nd.length {k : Int} {a b c d : List Int} (h : Nd k a b c d) : (nd k a b c d).length = 129 := by simp [nd, h.la, h.lb, h.lc, h.ld]
theorem Nd.size {k : Int} {a b c d : List Int} (h : Nd k a b c d) : (B (nd k a b c d)).size = 129 := by rw [B_size, h.length]
theorem Nd.segA {k : Int} {a b c d : List Int} (_ : Nd k a b c d) : Seg (nd k a b c d) 1 a := Seg.mid [k] a _ 1 rfl
theorem Nd.segB {k : Int} {a b c d : List Int} (h : Nd k a b c d) : Seg (nd k a b c d) 33 b := by
  have := Seg.mid (k :: a) b (c ++ d) 33 (by simp [h.la])
  simpa [nd] using this
theorem Nd.segC {k : Int} {a b c d : List Int} (h : Nd k a b c d) : Seg (nd k a b c d) 65 c := by
  have := Seg.mid (k :: (a ++ b)) c d 65 (by simp [h.la, h.lb])
  simpa [nd] using this
theorem Nd.segD {k : Int} {a b c d : List Int} (h : Nd k a b c d) : Seg (nd k a b c d) 97 d := by
  have := Seg.mid (k :: (a ++ (b ++ c))) d [] 97 (by simp [h.la, h.lb, h.lc])
  simpa [nd] using this
theorem Nd.bytes {k : Int} {a b c d : List Int} (h : Nd k a b c d) : Bytes (nd k a b c d) := fun z hz => by
  have hk := h.k0; have hk1 := h.k1
  simp only [nd, List.mem_cons, List.mem_append] at hz
  rcases hz with rfl | hz | hz | hz | hz
  · omega
  · exact h.ba z hz
  · exact h.bb z hz
  · exact h.bc z hz
  · exact h.bd z hz

theorem nd_inj {k k' : Int} {a b c d a' b' c' d' : List Int} (h : Nd k a b c d) (h' : Nd k' a' b' c' d') : nd k a b c d = nd k' a' b' c' d' ↔ k = k' ∧ a = a' ∧ b = b' ∧ c = c' ∧ d = d' := by
  unfold nd
  constructor
  · intro e
    injection e with e1 e2
    obtain ⟨e3, e4⟩ := List.append_inj e2 (by rw [h.la, h'.la])
    obtain ⟨e5, e6⟩ := List.append_inj e4 (by rw [h.lb, h'.lb])
    obtain ⟨e7, e8⟩ := List.append_inj e6 (by rw [h.lc, h'.lc])
    exact ⟨e1, e3, e5, e7, e8⟩
  · rintro ⟨rfl, rfl, rfl, rfl, rfl⟩
    rfl

/-- Every list of 129 bytes is a node. -/
theorem nd_of (zs : List Int) (h : zs.length = 129) (hb : Bytes zs) : ∃ k a b c d, zs = nd k a b c d ∧ Nd k a b c d := by
  match zs, h with
  | k :: r, h =>
    have hr : r.length = 128 := by simpa using h
    have e : r = r.take 32 ++ ((r.drop 32).take 32 ++ ((r.drop 64).take 32 ++ (r.drop 96))) := by
      have e1 : r.drop 64 = (r.drop 64).take 32 ++ r.drop 96 := by
        have := (List.take_append_drop 32 (r.drop 64)).symm
        rwa [List.drop_drop] at this
      have e2 : r.drop 32 = (r.drop 32).take 32 ++ r.drop 64 := by
        have := (List.take_append_drop 32 (r.drop 32)).symm
        rwa [List.drop_drop] at this
      rw [← e1, ← e2, List.take_append_drop]
    refine ⟨k, r.take 32, (r.drop 32).take 32, (r.drop 64).take 32, r.drop 96, by rw [nd, ← e], ?_⟩
    have hm : ∀ z ∈ r, 0 ≤ z ∧ z ≤ 255 := fun z hz => hb z (by simp [hz])
    have hk := hb k (by simp)
    exact ⟨by omega, by omega, by simp [hr], by simp [hr], by simp [hr], by simp [hr],
      fun z hz => hm z (List.mem_of_mem_take hz), fun z hz => hm z (List.mem_of_mem_drop (List.mem_of_mem_take hz)), fun z hz => hm z (List.mem_of_mem_drop (List.mem_of_mem_take hz)), fun z hz => hm z (List.mem_of_mem_drop hz)⟩

theorem u_node : ∃ fs, Tryz.prog.underlying 298 = some (.struct fs) := ⟨_, Tryz.underlying298⟩

theorem size_node : (Tryz.prog.info? 298).map (·.size) = some 129 := by kernel_rfl

theorem sz_path : (Tryz.prog.info? 34).map (·.size) = some 32 := by kernel_rfl

theorem sz_hash : (Tryz.prog.info? 39).map (·.size) = some 32 := by kernel_rfl

theorem zero_node : ∀ w, (zeroValue 298).run Tryz.prog w = .ok (.agg (B (List.replicate 129 0))) w := zero_of_info (n := 129) (by kernel_rfl) |>.1

/-- load of a part of a block of bytes. -/
theorem wpList_ldm {ops : Array Oper} {rest : List Oper} {op : Oper} {a : Act} {Q : Exit → Act → World → Prop} (w : World) (hgd : op.guard = none) (x : Operand) (ty : TypeId) (ho : op.op = .load ty x)
    (g o : Nat) (t : TypeId) (zs xs : List Int) (hx : a.eval x = .pointer (some ⟨g, o, none⟩)) (h : Blk w g t (B zs)) (hs : Seg zs o xs) (n : Nat) (e : TypeId) (hu : Tryz.prog.underlying ty = some (.array n e)) (hi : (Tryz.prog.info? ty).map (·.size) = some xs.length)
    (hk : wpList Tryz.prog ops Q rest (a.put op.dst (.agg (B xs))) w) : wpList Tryz.prog ops Q (op :: rest) a w :=
  wpList_load_mid hgd ty x ho g o hx (xs.map (Value.int .u8)) _ (hs.range h) hu rfl (by rw [hi]; simp) hk

/-- The kind of a node in a block. -/
theorem Nd.kind {w : World} {g : Nat} {t : TypeId} {k : Int} {a b c d : List Int} (h : Blk w g t (B (nd k a b c d))) : w.cell? ⟨g, 0, none⟩ = some (.int .u8 k) := by
  rw [h.cell]
  simp [B, nd]

/-! ### Literals -/
theorem fold_put (off : Nat) : ∀ (xs : List Value) (s : Nat) (zs : List Value), off + s + xs.length ≤ zs.length →
    (xs.zipIdx s).foldl (fun (cs : Array Value) (p : Value × Nat) => cs.setIfInBounds (off + p.2) p.1) zs.toArray = (zs.take (off + s) ++ xs ++ zs.drop (off + s + xs.length)).toArray
  | [], s, zs, _ => by simp
  | x :: xs, s, zs, h => by
    rw [List.zipIdx_cons, List.foldl_cons]
    have e : zs.toArray.setIfInBounds (off + s) x = (zs.set (off + s) x).toArray := by simp
    rw [e, fold_put off xs (s + 1) _ (by simp at h ⊢; omega)]
    congr 1
    have h1 : off + s < zs.length := by simp at h; omega
    rw [show off + (s + 1) = off + s + 1 by omega, List.take_add_one]
    simp only [List.length_cons]
    rw [List.take_set_of_le (by omega), List.getElem?_set_self h1, List.drop_set_of_lt (by omega)]
    simp [show off + s + 1 + xs.length = off + s + (xs.length + 1) by omega]

theorem fill_one (place : Nat → Option (Nat × Nat)) (i off n : Nat) (v : Value) (xs zs : List Value) (rest : List (Nat × Value)) (hp : place i = some (off, n)) (hv : v.cells = xs.toArray) (hn : xs.length = n) (hz : off + n ≤ zs.length) :
    Instr.fill place zs.toArray ((i, v) :: rest) = Instr.fill place (zs.take off ++ xs ++ zs.drop (off + n)).toArray rest := by
  have h1 : ¬ ((v.cells.size ≠ n || off + v.cells.size > zs.toArray.size) = true) := by
    rw [hv]
    simp
    omega
  have h2 := fold_put off xs 0 zs (by omega)
  simp only [Nat.add_zero, hn] at h2
  rw [Instr.fill, hp]
  simp only
  rw [if_neg h1, hv]
  congr 1
  rw [← h2, show xs.toArray.zipIdx = xs.zipIdx.toArray by apply Array.ext <;> simp, List.foldl_toArray]

def ndPlaces : Nat → Option (Nat × Nat) := fun i => (#[(0, 1), (1, 32), (33, 32), (65, 32), (97, 32)] : Array (Nat × Nat))[i]?

theorem built_eq (ps : List (Nat × Value)) : Tryz.prog.built 298 ps = Instr.fill ndPlaces (B (List.replicate 129 0)) ps := by kernel_rfl

theorem rep129 : B (List.replicate 129 0) = ((0 :: (z32 ++ (z32 ++ (z32 ++ z32)))).map (Value.int .u8)).toArray := rfl

theorem cells_b (xs : List Int) : (Value.agg (B xs)).cells = (xs.map (Value.int .u8)).toArray := rfl

theorem built_empty : Tryz.prog.built 298 [] = some (B (nd 0 z32 z32 z32 z32)) := by
  rw [built_eq]
  rfl

theorem built_leaf (a b : List Int) (ha : a.length = 32) (hb : b.length = 32) : Tryz.prog.built 298 [(0, .int .u8 1), (1, .agg (B a)), (2, .agg (B b))] = some (B (nd 1 a b z32 z32)) := by
  rw [built_eq, rep129, fill_one ndPlaces 0 0 1 _ [.int .u8 1] _ _ rfl rfl rfl (by simp [z32]), fill_one ndPlaces 1 1 32 _ (a.map (Value.int .u8)) _ _ rfl (cells_b a) (by simp [ha]) (by simp [z32]), fill_one ndPlaces 2 33 32 _ (b.map (Value.int .u8)) _ _ rfl (cells_b b) (by simp [hb]) (by simp [z32, ha]), Instr.fill]
  congr 1
  unfold B nd
  congr 1
  simp [z32, ha, List.drop_append]

theorem built_inner (c d : List Int) (hc : c.length = 32) (hd : d.length = 32) : Tryz.prog.built 298 [(0, .int .u8 2), (3, .agg (B c)), (4, .agg (B d))] = some (B (nd 2 z32 z32 c d)) := by
  rw [built_eq, rep129, fill_one ndPlaces 0 0 1 _ [.int .u8 2] _ _ rfl rfl rfl (by simp [z32]), fill_one ndPlaces 3 65 32 _ (c.map (Value.int .u8)) _ _ rfl (cells_b c) (by simp [hc]) (by simp [z32]), fill_one ndPlaces 4 97 32 _ (d.map (Value.int .u8)) _ _ rfl (cells_b d) (by simp [hd]) (by simp [z32, hc]), Instr.fill]
  congr 1
  unfold B nd
  congr 1
  simp [z32, hc, List.drop_append]

/-! ### Equality -/
theorem part_seg {ty : TypeId} (zs xs : List Int) (o : Nat) (n : Nat) (e : TypeId) (hu : Tryz.prog.underlying ty = some (.array n e)) (hi : (Tryz.prog.info? ty).map (·.size) = some xs.length) (hs : Seg zs o xs) (w : World) :
    (part ty (B zs) o).run Tryz.prog w = .ok (.agg (B xs)) w := by
  cases hq : Tryz.prog.info? ty with
  | none => simp [hq] at hi
  | some i =>
    have hz : i.size = xs.length := by simpa [hq] using hi
    have hagg : (isAgg ty).run Tryz.prog w = .ok true w := by
      unfold isAgg
      rw [Sem.run_bind, run_underlying hu w]
      rfl
    have hex : (B zs).extract o (o + xs.length) = B xs := by
      apply Array.ext'
      simp only [Array.toList_extract, B_toList, List.extract_eq_take_drop]
      rw [← List.map_drop, ← List.map_take]
      congr 1
      apply List.ext_getElem?
      intro j
      rw [show o + xs.length - o = xs.length by omega, List.getElem?_take, List.getElem?_drop]
      by_cases hj : j < xs.length
      · rw [if_pos hj]
        have := hs j xs[j] (by simp)
        rw [this]
        simp
      · rw [if_neg hj, List.getElem?_eq_none (by omega)]
    simp [part, Sem.run_bind, hagg, sizeOf, typeInfo, hq, hz, hex]

theorem part_kind (k : Int) (a b c d : List Int) (w : World) : (part 110 (B (nd k a b c d)) 0).run Tryz.prog w = .ok (.int .u8 k) w := by
  have hagg : (isAgg 110).run Tryz.prog w = .ok false w := Tryz.isAgg110 w
  unfold part
  rw [Sem.run_bind, hagg]
  simp [B, nd]

theorem arr_eqd (d : Nat) {t : TypeId} (ht : Tryz.prog.underlying t = some (.array 32 5)) (xs ys : List Int) (hx : xs.length = 32) (hy : ys.length = 32) (w : World) : (Op.equalIn (d + 1 + 1) t (.agg (B xs)) (.agg (B ys))).run Tryz.prog w = .ok (decide (xs = ys)) w := by
  obtain ⟨i, hi⟩ : ∃ i, Tryz.prog.info? 5 = some i := ⟨_, rfl⟩
  rw [run_equalIn_array (P := Tryz.prog) w (d + 1) (B xs) (B ys) ht hi, cellsOf_byte,
    items_eq u_byte Tryz.isAgg5 d xs ys (B xs) (B ys) (fun i hi => B_get xs i hi) (fun i hi => B_get ys i hi) w _ (fun i hi => by rw [hx, hy]; simpa using hi), all_same 32 xs ys hx hy]

theorem eqF_cons {d : Nat} {xs ys : Array Value} {f : Field} {fs : List Field} {u v : Value} {r : Bool} {w : World} (hn : f.name ≠ "_") (hu : (part f.type xs f.offset).run Tryz.prog w = .ok u w) (hv : (part f.type ys f.offset).run Tryz.prog w = .ok v w) (hr : (Op.equalIn d f.type u v).run Tryz.prog w = .ok r w) :
    (Op.eqFields d xs ys (f :: fs)).run Tryz.prog w = if r = true then (Op.eqFields d xs ys fs).run Tryz.prog w else .ok false w := by
  rw [Op.eqFields, if_pos hn]
  simp only [Sem.run_bind, hu, hv, hr, Result.andThen_ok]
  cases r <;> simp

theorem node_eq {k k' : Int} {a b c d a' b' c' d' : List Int} (h : Nd k a b c d) (h' : Nd k' a' b' c' d') (w : World) :
    (Op.equalIn 10000 298 (.agg (B (nd k a b c d))) (.agg (B (nd k' a' b' c' d')))).run Tryz.prog w = .ok (decide (nd k a b c d = nd k' a' b' c' d')) w := by
  have hf : ∃ f0 f1 f2 f3 f4 : Field, (Tryz.prog.fieldsOf 298).toList = [f0, f1, f2, f3, f4] ∧ (f0.name ≠ "_" ∧ f0.type = 110 ∧ f0.offset = 0) ∧ (f1.name ≠ "_" ∧ f1.type = 34 ∧ f1.offset = 1) ∧ (f2.name ≠ "_" ∧ f2.type = 39 ∧ f2.offset = 33) ∧ (f3.name ≠ "_" ∧ f3.type = 39 ∧ f3.offset = 65) ∧ (f4.name ≠ "_" ∧ f4.type = 39 ∧ f4.offset = 97) :=
    ⟨_, _, _, _, _, rfl, ⟨by decide, rfl, rfl⟩, ⟨by decide, rfl, rfl⟩, ⟨by decide, rfl, rfl⟩, ⟨by decide, rfl, rfl⟩, ⟨by decide, rfl, rfl⟩⟩
  obtain ⟨f0, f1, f2, f3, f4, hF, ⟨n0, t0, o0⟩, ⟨n1, t1, o1⟩, ⟨n2, t2, o2⟩, ⟨n3, t3, o3⟩, ⟨n4, t4, o4⟩⟩ := hf
  have hu : Tryz.prog.underlying 298 = some (.struct (Tryz.prog.fieldsOf 298)) := by kernel_rfl
  have pa := fun w => part_seg (nd k a b c d) a 1 32 _ Tryz.underlying34 (by rw [sz_path, h.la]) h.segA w
  have pb := fun w => part_seg (nd k a b c d) b 33 32 _ Tryz.underlying39 (by rw [sz_hash, h.lb]) h.segB w
  have pc := fun w => part_seg (nd k a b c d) c 65 32 _ Tryz.underlying39 (by rw [sz_hash, h.lc]) h.segC w
  have pd := fun w => part_seg (nd k a b c d) d 97 32 _ Tryz.underlying39 (by rw [sz_hash, h.ld]) h.segD w
  have qa := fun w => part_seg (nd k' a' b' c' d') a' 1 32 _ Tryz.underlying34 (by rw [sz_path, h'.la]) h'.segA w
  have qb := fun w => part_seg (nd k' a' b' c' d') b' 33 32 _ Tryz.underlying39 (by rw [sz_hash, h'.lb]) h'.segB w
  have qc := fun w => part_seg (nd k' a' b' c' d') c' 65 32 _ Tryz.underlying39 (by rw [sz_hash, h'.lc]) h'.segC w
  have qd := fun w => part_seg (nd k' a' b' c' d') d' 97 32 _ Tryz.underlying39 (by rw [sz_hash, h'.ld]) h'.segD w
  have ek : ∀ w, (Op.equalIn 9999 110 (.int .u8 k) (.int .u8 k')).run Tryz.prog w = .ok (k == k') w := fun w => run_equalIn_int (P := Tryz.prog) (w := w) 9998 110 .u8 .u8 k k' Tryz.underlying110
  have ea : ∀ w, (Op.equalIn 9999 34 (.agg (B a)) (.agg (B a'))).run Tryz.prog w = .ok (decide (a = a')) w := fun w => arr_eqd 9997 Tryz.underlying34 a a' h.la h'.la w
  have eb : ∀ w, (Op.equalIn 9999 39 (.agg (B b)) (.agg (B b'))).run Tryz.prog w = .ok (decide (b = b')) w := fun w => arr_eqd 9997 Tryz.underlying39 b b' h.lb h'.lb w
  have ec : ∀ w, (Op.equalIn 9999 39 (.agg (B c)) (.agg (B c'))).run Tryz.prog w = .ok (decide (c = c')) w := fun w => arr_eqd 9997 Tryz.underlying39 c c' h.lc h'.lc w
  have ed : ∀ w, (Op.equalIn 9999 39 (.agg (B d)) (.agg (B d'))).run Tryz.prog w = .ok (decide (d = d')) w := fun w => arr_eqd 9997 Tryz.underlying39 d d' h.ld h'.ld w
  rw [show (10000 : Nat) = 9999 + 1 from rfl, run_equalIn_struct w 9999 298 _ _ hu (by kernel_rfl), hF,
    eqF_cons n0 (by rw [t0, o0]; exact part_kind k a b c d w) (by rw [t0, o0]; exact part_kind k' a' b' c' d' w) (by rw [t0]; exact ek w),
    eqF_cons n1 (by rw [t1, o1]; exact pa w) (by rw [t1, o1]; exact qa w) (by rw [t1]; exact ea w),
    eqF_cons n2 (by rw [t2, o2]; exact pb w) (by rw [t2, o2]; exact qb w) (by rw [t2]; exact eb w),
    eqF_cons n3 (by rw [t3, o3]; exact pc w) (by rw [t3, o3]; exact qc w) (by rw [t3]; exact ec w),
    eqF_cons n4 (by rw [t4, o4]; exact pd w) (by rw [t4, o4]; exact qd w) (by rw [t4]; exact ed w)]
  rw [show decide (nd k a b c d = nd k' a' b' c' d') = decide (k = k' ∧ a = a' ∧ b = b' ∧ c = c' ∧ d = d') by simp only [nd_inj h h']]
  simp only [Op.eqFields, Sem.run_pure]
  by_cases e0 : k = k' <;> by_cases e1 : a = a' <;> by_cases e2 : b = b' <;> by_cases e3 : c = c' <;> by_cases e4 : d = d' <;> simp [e0, e1, e2, e3, e4]

end Go.Proofs.YtegegoapcdmlhaaGreatDoor
