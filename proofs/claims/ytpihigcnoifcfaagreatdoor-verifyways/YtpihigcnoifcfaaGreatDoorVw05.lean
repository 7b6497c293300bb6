/- Nodes by value: 129 bytes in a row: a kind, and four arrays of 32. Their parts, their literals, and that two are held against each other whole. -/
import Derived.Test.YtpihigcnoifcfaaGreatDoorVw04
import Derived.Deep.RegionHeld
import Derived.Deep.RegionHeld2
import Derived.Test.YtpihigcnoifcfaaGreatDoorVw01
namespace Go.Proofs.YtpihigcnoifcfaaGreatDoor
set_option maxRecDepth 20000
open Go.RowKit

/-- xs lies in zs from o on. -/
def Seg (zs : List Int) (o : Nat) (xs : List Int) : Prop := ∀ j v, xs[j]? = some v → zs[o + j]? = some v

theorem Seg.mid (p xs q : List Int) (o : Nat) (h : p.length = o) : Seg (p ++ (xs ++ q)) o xs := fun j v hj => by
  have hlt : j < xs.length := (List.getElem?_eq_some_iff.1 hj).1
  rw [List.getElem?_append_right (by omega), show o + j - p.length = j by omega, List.getElem?_append_left hlt]
  exact hj

theorem Seg.range {w : World} {g : Nat} {t : TypeId} {zs xs : List Int} {o : Nat} (h : Seg zs o xs) (hb : Blk w g t (B zs)) : w.rangeAt g o (xs.map (Value.int .u8)) := fun j v hv => by
  rw [hb.cell]
  simp only [List.getElem?_map, Option.map_eq_some_iff] at hv
  obtain ⟨z, hz, rfl⟩ := hv
  simp [B, h j z hz]

/-- A node: its kind, its key, its value's digest, both sides'. -/
def nd (k : Int) (a b c d : List Int) : List Int := k :: (a ++ (b ++ (c ++ d)))
def z32 : List Int := List.replicate 32 0
theorem z32_length : z32.length = 32 := rfl
theorem z32_bytes : Bytes z32 := fun z hz => by rw [List.eq_of_mem_replicate hz]; omega

/-- What a node's fields are. -/
structure Nd (k : Int) (a b c d : List Int) : Prop where
  k0 : 0 ≤ k
  k1 : k < 256
  la : a.length = 32
  lb : b.length = 32
  lc : c.length = 32
  ld : d.length = 32
  ba : Bytes a
  bb : Bytes b
  bc : Bytes c
  bd : Bytes d

theorem Nd.length {k : Int} {a b c d : List Int} (h : Nd k a b c d) : (nd k a b c d).length = 129 := by simp [nd, h.la, h.lb, h.lc, h.ld]
theorem Nd.size {k : Int} {a b c d : List Int} (h : Nd k a b c d) : (B (nd k a b c d)).size = 129 := by rw [B_size, h.length]
theorem Nd.segA {k : Int} {a b c d : List Int} (_ : Nd k a b c d) : Seg (nd k a b c d) 1 a := Seg.mid [k] a _ 1 rfl
theorem Nd.segB {k : Int} {a b c d : List Int} (h : Nd k a b c d) : Seg (nd k a b c d) 33 b := by
  have := Seg.mid (k :: a) b (c ++ d) 33 (by simp [h.la])
  simpa [nd] using this
theorem Nd.segC {k : Int} {a b c d : List Int} (h : Nd k a b c d) : Seg (nd k a b c d) 65 c := by
  have := Seg.mid (k :: (a ++ b)) c d 65 (by simp [h.la, h.lb])
  simpa [nd] using this
theorem Nd.segD {k : Int} {a b c d : List Int} (h : Nd k a b c d) : Seg (nd k a b c d) 97 d := by
  have := Seg.mid (k :: (a ++ (b ++ c))) d [] 97 (by simp [h.la, h.lb, h.lc])
  simpa [nd] using this
theorem Nd.bytes {k : Int} {a b c d : List Int} (h : Nd k a b c d) : Bytes (nd k a b c d) := fun z hz => by
  have hk := h.k0; have hk1 := h.k1
  simp only [nd, List.mem_cons, List.mem_append] at hz
  rcases hz with rfl | hz | hz | hz | hz
  · omega
  · exact h.ba z hz
  · exact h.bb z hz
  · exact h.bc z hz
  · exact h.bd z hz

theorem nd_inj {k k' : Int} {a b c d a' b' c' d' : List Int} (h : Nd k a b c d) (h' : Nd k' a' b' c' d') : nd k a b c d = nd k' a' b' c' d' ↔ k = k' ∧ a = a' ∧ b = b' ∧ c = c' ∧ d = d' := by
  unfold nd
  constructor
  · intro e
    injection e with e1 e2
    obtain ⟨e3, e4⟩ := List.append_inj e2 (by rw [h.la, h'.la])
    obtain ⟨e5, e6⟩ := List.append_inj e4 (by rw [h.lb, h'.lb])
    obtain ⟨e7, e8⟩ := List.append_inj e6 (by rw [h.lc, h'.lc])
    exact ⟨e1, e3, e5, e7, e8⟩
  · rintro ⟨rfl, rfl, rfl, rfl, rfl⟩
    rfl

/-- Every list of 129 bytes is a node. -/
theorem nd_of (zs : List Int) (h : zs.length = 129) (hb : Bytes zs) : ∃ k a b c d, zs = nd k a b c d ∧ Nd k a b c d := by
  match zs, h with
  | k :: r, h =>
    have hr : r.length = 128 := by simpa using h
    have e : r = r.take 32 ++ ((r.drop 32).take 32 ++ ((r.drop 64).take 32 ++ (r.drop 96))) := by
      have e1 : r.drop 64 = (r.drop 64).take 32 ++ r.drop 96 := by
        have := (List.take_append_drop 32 (r.drop 64)).symm
        rwa [List.drop_drop] at this
      have e2 : r.drop 32 = (r.drop 32).take 32 ++ r.drop 64 := by
        have := (List.take_append_drop 32 (r.drop 32)).symm
        rwa [List.drop_drop] at this
      rw [← e1, ← e2, List.take_append_drop]
    refine ⟨k, r.take 32, (r.drop 32).take 32, (r.drop 64).take 32, r.drop 96, by rw [nd, ← e], ?_⟩
    have hm : ∀ z ∈ r, 0 ≤ z ∧ z ≤ 255 := fun z hz => hb z (by simp [hz])
    have hk := hb k (by simp)
    exact ⟨by omega, by omega, by simp [hr], by simp [hr], by simp [hr], by simp [hr],
      fun z hz => hm z (List.mem_of_mem_take hz), fun z hz => hm z (List.mem_of_mem_drop (List.mem_of_mem_take hz)), fun z hz => hm z (List.mem_of_mem_drop (List.mem_of_mem_take hz)), fun z hz => hm z (List.mem_of_mem_drop hz)⟩

theorem u_node : ∃ fs, Tryz.prog.underlying 33 = some (.struct fs) := ⟨_, Tryz.underlying33⟩

theorem size_node : (Tryz.prog.info? 33).map (·.size) = some 129 := by kernel_rfl

theorem sz_path : (Tryz.prog.info? 24).map (·.size) = some 32 := by kernel_rfl

theorem sz_hash : (Tryz.prog.info? 25).map (·.size) = some 32 := by kernel_rfl

theorem zero_node : ∀ w, (zeroValue 33).run Tryz.prog w = .ok (.agg (B (List.replicate 129 0))) w := zero_of_info (n := 129) (by kernel_rfl) |>.1

/-- load of a part of a block of bytes. -/
theorem wpList_ldm {ops : Array Oper} {rest : List Oper} {op : Oper} {a : Act} {Q : Exit → Act → World → Prop} (w : World) (hgd : op.guard = none) (x : Operand) (ty : TypeId) (ho : op.op = .load ty x)
    (g o : Nat) (t : TypeId) (zs xs : List Int) (hx : a.eval x = .pointer (some ⟨g, o, none⟩)) (h : Blk w g t (B zs)) (hs : Seg zs o xs) (n : Nat) (e : TypeId) (hu : Tryz.prog.underlying ty = some (.array n e)) (hi : (Tryz.prog.info? ty).map (·.size) = some xs.length)
    (hk : wpList Tryz.prog ops Q rest (a.put op.dst (.agg (B xs))) w) : wpList Tryz.prog ops Q (op :: rest) a w :=
  wpList_load_mid hgd ty x ho g o hx (xs.map (Value.int .u8)) _ (hs.range h) hu rfl (by rw [hi]; simp) hk

/-- The kind of a node in a block. -/
theorem Nd.kind {w : World} {g : Nat} {t : TypeId} {k : Int} {a b c d : List Int} (h : Blk w g t (B (nd k a b c d))) : w.cell? ⟨g, 0, none⟩ = some (.int .u8 k) := by
  rw [h.cell]
  simp [B, nd]

/-! ### Literals -/
theorem fold_put (off : Nat) : ∀ (xs : List Value) (s : Nat) (zs : List Value), off + s + xs.length ≤ zs.length →
    (xs.zipIdx s).foldl (fun (cs : Array Value) (p : Value × Nat) => cs.setIfInBounds (off + p.2) p.1) zs.toArray = (zs.take (off + s) ++ xs ++ zs.drop (off + s + xs.length)).toArray
  | [], s, zs, _ => by simp
  | x :: xs, s, zs, h => by
    rw [List.zipIdx_cons, List.foldl_cons]
    have e : zs.toArray.setIfInBounds (off + s) x = (zs.set (off + s) x).toArray := by simp
    rw [e, fold_put off xs (s + 1) _ (by simp at h ⊢; omega)]
    congr 1
    have h1 : off + s < zs.length := by simp at h; omega
    rw [show off + (s + 1) = off + s + 1 by omega, List.take_add_one]
    simp only [List.length_cons]
    rw [List.take_set_of_le (by omega), List.getElem?_set_self h1, List.drop_set_of_lt (by omega)]
    simp [show off + s + 1 + xs.length = off + s + (xs.length + 1) by omega]

theorem fill_one (place : Nat → Option (Nat × Nat)) (i off n : Nat) (v : Value) (xs zs : List Value) (rest : List (Nat × Value)) (hp : place i = some (off, n)) (hv : v.cells = xs.toArray) (hn : xs.length = n) (hz : off + n ≤ zs.length) :
    Instr.fill place zs.toArray ((i, v) :: rest) = Instr.fill place (zs.take off ++ xs ++ zs.drop (off + n)).toArray rest := by
  have h1 : ¬ ((v.cells.size ≠ n || off + v.cells.size > zs.toArray.size) = true) := by
    rw [hv]
    simp
    omega
  have h2 := fold_put off xs 0 zs (by omega)
  simp only [Nat.add_zero, hn] at h2
  rw [Instr.fill, hp]
  simp only
  rw [if_neg h1, hv]
  congr 1
  rw [← h2, show xs.toArray.zipIdx = xs.zipIdx.toArray by apply Array.ext <;> simp, List.foldl_toArray]

def ndPlaces : Nat → Option (Nat × Nat) := fun i => (#[(0, 1), (1, 32), (33, 32), (65, 32), (97, 32)] : Array (Nat × Nat))[i]?

theorem built_eq (ps : List (Nat × Value)) : Tryz.prog.built 33 ps = Instr.fill ndPlaces (B (List.replicate 129 0)) ps := by kernel_rfl

theorem rep129 : B (List.replicate 129 0) = ((0 :: (z32 ++ (z32 ++ (z32 ++ z32)))).map (Value.int .u8)).toArray := rfl

theorem cells_b (xs : List Int) : (Value.agg (B xs)).cells = (xs.map (Value.int .u8)).toArray := rfl

theorem built_empty : Tryz.prog.built 33 [] = some (B (nd 0 z32 z32 z32 z32)) := by
  rw [built_eq]
  rfl

theorem built_leaf (a b : List Int) (ha : a.length = 32) (hb : b.length = 32) : Tryz.prog.built 33 [(0, .int .u8 1), (1, .agg (B a)), (2, .agg (B b))] = some (B (nd 1 a b z32 z32)) := by
  rw [built_eq, rep129, fill_one ndPlaces 0 0 1 _ [.int .u8 1] _ _ rfl rfl rfl (by simp [z32]), fill_one ndPlaces 1 1 32 _ (a.map (Value.int .u8)) _ _ rfl (cells_b a) (by simp [ha]) (by simp [z32]), fill_one ndPlaces 2 33 32 _ (b.map (Value.int .u8)) _ _ rfl (cells_b b) (by simp [hb]) (by simp [z32, ha]), Instr.fill]
  congr 1
  unfold B nd
  congr 1
  simp [z32, ha, List.drop_append]

theorem built_inner (c d : List Int) (hc : c.length = 32) (hd : d.length = 32) : Tryz.prog.built 33 [(0, .int .u8 2), (3, .agg (B c)), (4, .agg (B d))] = some (B (nd 2 z32 z32 c d)) := by
  rw [built_eq, rep129, fill_one ndPlaces 0 0 1 _ [.int .u8 2] _ _ rfl rfl rfl (by simp [z32]), fill_one ndPlaces 3 65 32 _ (c.map (Value.int .u8)) _ _ rfl (cells_b c) (by simp [hc]) (by simp [z32]), fill_one ndPlaces 4 97 32 _ (d.map (Value.int .u8)) _ _ rfl (cells_b d) (by simp [hd]) (by simp [z32, hc]), Instr.fill]
  congr 1
  unfold B nd
  congr 1
  simp [z32, hc, List.drop_append]

/-! ### Equality -/
theorem part_seg {ty : TypeId} (zs xs : List Int) (o : Nat) (n : Nat) (e : TypeId) (hu : Tryz.prog.underlying ty = some (.array n e)) (hi : (Tryz.prog.info? ty).map (·.size) = some xs.length) (hs : Seg zs o xs) (w : World) :
    (part ty (B zs) o).run Tryz.prog w = .ok (.agg (B xs)) w := by
  cases hq : Tryz.prog.info? ty with
  | none => simp [hq] at hi
  | some i =>
    have hz : i.size = xs.length := by simpa [hq] using hi
    have hagg : (isAgg ty).run Tryz.prog w = .ok true w := by
      unfold isAgg
      rw [Sem.run_bind, run_underlying hu w]
      rfl
    have hex : (B zs).extract o (o + xs.length) = B xs := by
      apply Array.ext'
      simp only [Array.toList_extract, B_toList, List.extract_eq_take_drop]
      rw [← List.map_drop, ← List.map_take]
      congr 1
      apply List.ext_getElem?
      intro j
      rw [show o + xs.length - o = xs.length by omega, List.getElem?_take, List.getElem?_drop]
      by_cases hj : j < xs.length
      · rw [if_pos hj]
        have := hs j xs[j] (by simp)
        rw [this]
        simp
      · rw [if_neg hj, List.getElem?_eq_none (by omega)]
    simp [part, Sem.run_bind, hagg, sizeOf, typeInfo, hq, hz, hex]

theorem part_kind (k : Int) (a b c d : List Int) (w : World) : (part 31 (B (nd k a b c d)) 0).run Tryz.prog w = .ok (.int .u8 k) w := by
  have hagg : (isAgg 31).run Tryz.prog w = .ok false w := Tryz.isAgg31 w
  unfold part
  rw [Sem.run_bind, hagg]
  simp [B, nd]

theorem arr_eqd (d : Nat) {t : TypeId} (ht : Tryz.prog.underlying t = some (.array 32 5)) (xs ys : List Int) (hx : xs.length = 32) (hy : ys.length = 32) (w : World) : (Op.equalIn (d + 1 + 1) t (.agg (B xs)) (.agg (B ys))).run Tryz.prog w = .ok (decide (xs = ys)) w := by
  obtain ⟨i, hi⟩ : ∃ i, Tryz.prog.info? 5 = some i := ⟨_, rfl⟩
  rw [run_equalIn_array (P := Tryz.prog) w (d + 1) (B xs) (B ys) ht hi, cellsOf_byte,
    items_eq u_byte Tryz.isAgg5 d xs ys (B xs) (B ys) (fun i hi => B_get xs i hi) (fun i hi => B_get ys i hi) w _ (fun i hi => by rw [hx, hy]; simpa using hi), all_same 32 xs ys hx hy]

theorem eqF_cons {d : Nat} {xs ys : Array Value} {f : Field} {fs : List Field} {u v : Value} {r : Bool} {w : World} (hn : f.name ≠ "_") (hu : (part f.type xs f.offset).run Tryz.prog w = .ok u w) (hv : (part f.type ys f.offset).run Tryz.prog w = .ok v w) (hr : (Op.equalIn d f.type u v).run Tryz.prog w = .ok r w) :
    (Op.eqFields d xs ys (f :: fs)).run Tryz.prog w = if r = true then (Op.eqFields d xs ys fs).run Tryz.prog w else .ok false w := by
  rw [Op.eqFields, if_pos hn]
  simp only [Sem.run_bind, hu, hv, hr, Result.andThen_ok]
  cases r <;> simp

theorem node_eq {k k' : Int} {a b c d a' b' c' d' : List Int} (h : Nd k a b c d) (h' : Nd k' a' b' c' d') (w : World) :
    (Op.equalIn 10000 33 (.agg (B (nd k a b c d))) (.agg (B (nd k' a' b' c' d')))).run Tryz.prog w = .ok (decide (nd k a b c d = nd k' a' b' c' d')) w := by
  have hf : ∃ f0 f1 f2 f3 f4 : Field, (Tryz.prog.fieldsOf 33).toList = [f0, f1, f2, f3, f4] ∧ (f0.name ≠ "_" ∧ f0.type = 31 ∧ f0.offset = 0) ∧ (f1.name ≠ "_" ∧ f1.type = 24 ∧ f1.offset = 1) ∧ (f2.name ≠ "_" ∧ f2.type = 25 ∧ f2.offset = 33) ∧ (f3.name ≠ "_" ∧ f3.type = 25 ∧ f3.offset = 65) ∧ (f4.name ≠ "_" ∧ f4.type = 25 ∧ f4.offset = 97) :=
    ⟨_, _, _, _, _, rfl, ⟨by decide, rfl, rfl⟩, ⟨by decide, rfl, rfl⟩, ⟨by decide, rfl, rfl⟩, ⟨by decide, rfl, rfl⟩, ⟨by decide, rfl, rfl⟩⟩
  obtain ⟨f0, f1, f2, f3, f4, hF, ⟨n0, t0, o0⟩, ⟨n1, t1, o1⟩, ⟨n2, t2, o2⟩, ⟨n3, t3, o3⟩, ⟨n4, t4, o4⟩⟩ := hf
  have hu : Tryz.prog.underlying 33 = some (.struct (Tryz.prog.fieldsOf 33)) := by kernel_rfl
  have pa := fun w => part_seg (nd k a b c d) a 1 32 _ Tryz.underlying24 (by rw [sz_path, h.la]) h.segA w
  have pb := fun w => part_seg (nd k a b c d) b 33 32 _ Tryz.underlying25 (by rw [sz_hash, h.lb]) h.segB w
  have pc := fun w => part_seg (nd k a b c d) c 65 32 _ Tryz.underlying25 (by rw [sz_hash, h.lc]) h.segC w
  have pd := fun w => part_seg (nd k a b c d) d 97 32 _ Tryz.underlying25 (by rw [sz_hash, h.ld]) h.segD w
  have qa := fun w => part_seg (nd k' a' b' c' d') a' 1 32 _ Tryz.underlying24 (by rw [sz_path, h'.la]) h'.segA w
  have qb := fun w => part_seg (nd k' a' b' c' d') b' 33 32 _ Tryz.underlying25 (by rw [sz_hash, h'.lb]) h'.segB w
  have qc := fun w => part_seg (nd k' a' b' c' d') c' 65 32 _ Tryz.underlying25 (by rw [sz_hash, h'.lc]) h'.segC w
  have qd := fun w => part_seg (nd k' a' b' c' d') d' 97 32 _ Tryz.underlying25 (by rw [sz_hash, h'.ld]) h'.segD w
  have ek : ∀ w, (Op.equalIn 9999 31 (.int .u8 k) (.int .u8 k')).run Tryz.prog w = .ok (k == k') w := fun w => run_equalIn_int (P := Tryz.prog) (w := w) 9998 31 .u8 .u8 k k' Tryz.underlying31
  have ea : ∀ w, (Op.equalIn 9999 24 (.agg (B a)) (.agg (B a'))).run Tryz.prog w = .ok (decide (a = a')) w := fun w => arr_eqd 9997 Tryz.underlying24 a a' h.la h'.la w
  have eb : ∀ w, (Op.equalIn 9999 25 (.agg (B b)) (.agg (B b'))).run Tryz.prog w = .ok (decide (b = b')) w := fun w => arr_eqd 9997 Tryz.underlying25 b b' h.lb h'.lb w
  have ec : ∀ w, (Op.equalIn 9999 25 (.agg (B c)) (.agg (B c'))).run Tryz.prog w = .ok (decide (c = c')) w := fun w => arr_eqd 9997 Tryz.underlying25 c c' h.lc h'.lc w
  have ed : ∀ w, (Op.equalIn 9999 25 (.agg (B d)) (.agg (B d'))).run Tryz.prog w = .ok (decide (d = d')) w := fun w => arr_eqd 9997 Tryz.underlying25 d d' h.ld h'.ld w
  rw [show (10000 : Nat) = 9999 + 1 from rfl, run_equalIn_struct w 9999 33 _ _ hu (by kernel_rfl), hF,
    eqF_cons n0 (by rw [t0, o0]; exact part_kind k a b c d w) (by rw [t0, o0]; exact part_kind k' a' b' c' d' w) (by rw [t0]; exact ek w),
    eqF_cons n1 (by rw [t1, o1]; exact pa w) (by rw [t1, o1]; exact qa w) (by rw [t1]; exact ea w),
    eqF_cons n2 (by rw [t2, o2]; exact pb w) (by rw [t2, o2]; exact qb w) (by rw [t2]; exact eb w),
    eqF_cons n3 (by rw [t3, o3]; exact pc w) (by rw [t3, o3]; exact qc w) (by rw [t3]; exact ec w),
    eqF_cons n4 (by rw [t4, o4]; exact pd w) (by rw [t4, o4]; exact qd w) (by rw [t4]; exact ed w)]
  rw [show decide (nd k a b c d = nd k' a' b' c' d') = decide (k = k' ∧ a = a' ∧ b = b' ∧ c = c' ∧ d = d') by simp only [nd_inj h h']]
  simp only [Op.eqFields, Sem.run_pure]
  by_cases e0 : k = k' <;> by_cases e1 : a = a' <;> by_cases e2 : b = b' <;> by_cases e3 : c = c' <;> by_cases e4 : d = d' <;> simp [e0, e1, e2, e3, e4]

end Go.Proofs.YtpihigcnoifcfaaGreatDoor

/- node.bare, Check, is, as contracts. -/
namespace Go.Proofs.YtpihigcnoifcfaaGreatDoor
set_option maxRecDepth 20000
open Go.RowKit

/-- A node that may be. -/
def okN (k : Int) (a b c d : List Int) : Bool := decide ((k = 0 ∧ a = z32 ∧ b = z32 ∧ c = z32 ∧ d = z32) ∨ (k = 1 ∧ c = z32 ∧ d = z32) ∨ (k = 2 ∧ a = z32 ∧ b = z32))

theorem z_nd : Nd 0 z32 z32 z32 z32 := ⟨by omega, by omega, rfl, rfl, rfl, rfl, z32_bytes, z32_bytes, z32_bytes, z32_bytes⟩

def BarePost (k : Int) (a b c d : List Int) (w : World) (e : Ending) (w' : World) : Prop :=
  ∃ k' a' b' c' d', e = .returned (.agg (B (nd k' a' b' c' d'))) ∧ Nd k' a' b' c' d' ∧ okN k a b c d = decide (nd k a b c d = nd k' a' b' c' d') ∧ Below w.heap.size w w'

set_option maxHeartbeats 2000000 in
theorem bare_any (k : Int) (a b c d : List Int) (w : World) (h : Nd k a b c d) : Calls Tryz.prog 73 #[.agg (B (nd k a b c d))] w (BarePost k a b c d w) := by
  obtain ⟨fs, hu⟩ := u_node
  have HU := hidden hu
  have H := hidden h
  have H129 : Hid ((Tryz.prog.info? 33).map (·.size) = some (B (nd k a b c d)).size) := by show _ = _; rw [h.size, size_node]
  obtain ⟨N, hN⟩ : ∃ N, N = nd k a b c d := ⟨_, rfl⟩
  have HN := hidden hN
  rw [← hN] at H129 ⊢
  have hkd := fun w g t (q : Blk w g t (B N)) => Nd.kind (k := k) (a := a) (b := b) (c := c) (d := d) (by rw [← hN]; exact q)
  have HKD : Hid (∀ w g t, Blk w g t (B N) → w.cell? ⟨g, 0, none⟩ = some (.int .u8 k)) := hkd
  have SA : Hid (Seg N 1 a) := by rw [hN]; exact h.segA
  have SB : Hid (Seg N 33 b) := by rw [hN]; exact h.segB
  have SC : Hid (Seg N 65 c) := by rw [hN]; exact h.segC
  have SD : Hid (Seg N 97 d) := by rw [hN]; exact h.segD
  have LA : Hid ((Tryz.prog.info? 24).map (·.size) = some a.length) := by show _ = _; rw [h.la]; exact sz_path
  have LB : Hid ((Tryz.prog.info? 25).map (·.size) = some b.length) := by show _ = _; rw [h.lb]; exact sz_hash
  have LC : Hid ((Tryz.prog.info? 25).map (·.size) = some c.length) := by show _ = _; rw [h.lc]; exact sz_hash
  have LD : Hid ((Tryz.prog.info? 25).map (·.size) = some d.length) := by show _ = _; rw [h.ld]; exact sz_hash
  by_cases hk1 : k = 1
  · have HB : Hid (Tryz.prog.built 33 [(0, .int .u8 1), (1, .agg (B a)), (2, .agg (B b))] = some (B (nd 1 a b z32 z32))) := built_leaf a b h.la h.lb
    have HR : Hid (Nd 1 a b z32 z32) := ⟨by omega, by omega, h.la, h.lb, rfl, rfl, h.ba, h.bb, z32_bytes, z32_bytes⟩
    have HO : Hid (okN k a b c d = decide (nd k a b c d = nd 1 a b z32 z32)) := by
      show _ = _
      rw [Bool.eq_iff_iff, decide_eq_true_iff, nd_inj h HR.out]
      simp [okN, hk1]
    have q1 : (k == 1) = true := by simp [hk1]
    clear h hu hN hkd hk1
    go_enter Tryz.func73, Tryz.ntmps73
    go_wp2_with (first
      | ((with_reducible refine at_bx ?_); refine wpList_bx _ rfl _ _ rfl _ rfl ?_; intro w1 g1 hg1 hl1 B1 b1; have ck := HKD.out _ _ _ B1)
      | ((with_reducible refine at_al ?_); refine wpList_al _ rfl _ rfl _ zero_node ?_; intro w2 g2 hg2 hl2 B2 b2; have B1' := B1.grow b2; have ck2 := HKD.out _ _ _ B1')
      | ((with_reducible refine at_ld 7 ?_); refine wpList_ldm _ rfl _ _ rfl g1 1 _ _ a rfl B1' SA.out _ _ Tryz.underlying24 LA.out ?_)
      | ((with_reducible refine at_ld 9 ?_); refine wpList_ldm _ rfl _ _ rfl g1 33 _ _ b rfl B1' SB.out _ _ Tryz.underlying25 LB.out ?_)
      | ((with_reducible refine at_bd ?_); refine wpList_bld _ rfl _ _ rfl _ (by rw [List.map_toArray]; exact HB.out) ?_)
      | ((with_reducible refine at_st 2 ?_); refine wpList_sto _ rfl _ _ _ rfl g2 _ _ rfl rfl B2 (by rw [HR.out.size]; exact size_node) (by rw [HR.out.size]; rfl) (B_one _) ?_; intro w3 B3 g3))
    exact bodyPost_ret (v := .agg (B (nd 1 a b z32 z32))) (results_cell_row rfl _ _ g2 _ _ _ _ rfl B3 HU.out rfl (by rw [HR.out.size]; exact size_node)) rfl ⟨_, _, _, _, _, rfl, HR.out, HO.out, below_row (grow_trans b1 b2) g3 (Nat.le_trans b1.size hg2)⟩
  · have q1 : (k == 1) = false := by simp [hk1]
    by_cases hk2 : k = 2
    · have HB : Hid (Tryz.prog.built 33 [(0, .int .u8 2), (3, .agg (B c)), (4, .agg (B d))] = some (B (nd 2 z32 z32 c d))) := built_inner c d h.lc h.ld
      have HR : Hid (Nd 2 z32 z32 c d) := ⟨by omega, by omega, rfl, rfl, h.lc, h.ld, z32_bytes, z32_bytes, h.bc, h.bd⟩
      have HO : Hid (okN k a b c d = decide (nd k a b c d = nd 2 z32 z32 c d)) := by
        show _ = _
        rw [Bool.eq_iff_iff, decide_eq_true_iff, nd_inj h HR.out]
        simp [okN, hk2]
      have q2 : (k == 2) = true := by simp [hk2]
      clear h hu hN hkd hk1 hk2
      go_enter Tryz.func73, Tryz.ntmps73
      go_wp2_with (first
        | ((with_reducible refine at_bx ?_); refine wpList_bx _ rfl _ _ rfl _ rfl ?_; intro w1 g1 hg1 hl1 B1 b1; have ck := HKD.out _ _ _ B1)
        | ((with_reducible refine at_al ?_); refine wpList_al _ rfl _ rfl _ zero_node ?_; intro w2 g2 hg2 hl2 B2 b2; have B1' := B1.grow b2; have ck2 := HKD.out _ _ _ B1')
        | ((with_reducible refine at_ld 14 ?_); refine wpList_ldm _ rfl _ _ rfl g1 65 _ _ c rfl B1' SC.out _ _ Tryz.underlying25 LC.out ?_)
        | ((with_reducible refine at_ld 16 ?_); refine wpList_ldm _ rfl _ _ rfl g1 97 _ _ d rfl B1' SD.out _ _ Tryz.underlying25 LD.out ?_)
        | ((with_reducible refine at_bd ?_); refine wpList_bld _ rfl _ _ rfl _ (by rw [List.map_toArray]; exact HB.out) ?_)
        | ((with_reducible refine at_st 2 ?_); refine wpList_sto _ rfl _ _ _ rfl g2 _ _ rfl rfl B2 (by rw [HR.out.size]; exact size_node) (by rw [HR.out.size]; rfl) (B_one _) ?_; intro w3 B3 g3))
      exact bodyPost_ret (v := .agg (B (nd 2 z32 z32 c d))) (results_cell_row rfl _ _ g2 _ _ _ _ rfl B3 HU.out rfl (by rw [HR.out.size]; exact size_node)) rfl ⟨_, _, _, _, _, rfl, HR.out, HO.out, below_row (grow_trans b1 b2) g3 (Nat.le_trans b1.size hg2)⟩
    · have HB : Hid (Tryz.prog.built 33 [] = some (B (nd 0 z32 z32 z32 z32))) := built_empty
      have HR : Hid (Nd 0 z32 z32 z32 z32) := z_nd
      have HO : Hid (okN k a b c d = decide (nd k a b c d = nd 0 z32 z32 z32 z32)) := by
        show _ = _
        rw [Bool.eq_iff_iff, decide_eq_true_iff, nd_inj h HR.out]
        simp [okN, hk1, hk2]
      have q2 : (k == 2) = false := by simp [hk2]
      clear h hu hN hkd hk1 hk2
      go_enter Tryz.func73, Tryz.ntmps73
      go_wp2_with (first
        | ((with_reducible refine at_bx ?_); refine wpList_bx _ rfl _ _ rfl _ rfl ?_; intro w1 g1 hg1 hl1 B1 b1; have ck := HKD.out _ _ _ B1)
        | ((with_reducible refine at_al ?_); refine wpList_al _ rfl _ rfl _ zero_node ?_; intro w2 g2 hg2 hl2 B2 b2; have B1' := B1.grow b2; have ck2 := HKD.out _ _ _ B1')
        | ((with_reducible refine at_bd ?_); refine wpList_bld _ rfl _ _ rfl _ (by rw [List.map_toArray]; exact HB.out) ?_)
        | ((with_reducible refine at_st 2 ?_); refine wpList_sto _ rfl _ _ _ rfl g2 _ _ rfl rfl B2 (by rw [HR.out.size]; exact size_node) (by rw [HR.out.size]; rfl) (B_one _) ?_; intro w3 B3 g3))
      exact bodyPost_ret (v := .agg (B (nd 0 z32 z32 z32 z32))) (results_cell_row rfl _ _ g2 _ _ _ _ rfl B3 HU.out rfl (by rw [HR.out.size]; exact size_node)) rfl ⟨_, _, _, _, _, rfl, HR.out, HO.out, below_row (grow_trans b1 b2) g3 (Nat.le_trans b1.size hg2)⟩

def okE (k : Int) (a b c d : List Int) : Int := if okN k a b c d = true then 0 else 2

set_option maxHeartbeats 2000000 in
theorem check_any (k : Int) (a b c d : List Int) (w : World) (h : Nd k a b c d) : Calls Tryz.prog 48 #[.agg (B (nd k a b c d))] w fun e w' => e = .returned (.int .i64 (okE k a b c d)) ∧ Below w.heap.size w w' := by
  obtain ⟨fs, hu⟩ := u_node
  have HU := hidden hu
  have H := hidden h
  have H129 : Hid ((Tryz.prog.info? 33).map (·.size) = some (B (nd k a b c d)).toList.length) := by show _ = _; rw [Array.length_toList, h.size, size_node]
  have HC : Hid (∀ w', Calls Tryz.prog 73 #[.agg (B (nd k a b c d))] w' (BarePost k a b c d w')) := fun w' => bare_any k a b c d w' h
  have HEQ : Hid (∀ k' a' b' c' d', Nd k' a' b' c' d' → ∀ w, (Op.equalIn 10000 33 (.agg (B (nd k a b c d))) (.agg (B (nd k' a' b' c' d')))).run Tryz.prog w = .ok (decide (nd k a b c d = nd k' a' b' c' d')) w) := fun k' a' b' c' d' h' w => node_eq h h' w
  obtain ⟨r, hr⟩ : ∃ r, r = okN k a b c d := ⟨_, rfl⟩
  have HO : Hid (okE k a b c d = if r = true then 0 else 2) := by show _ = _; rw [okE, hr]
  rw [HO.out]
  have HP : Hid (∀ w e w', BarePost k a b c d w e w' → ∃ M, e = .returned (.agg (B M)) ∧ (∀ w, (Op.equalIn 10000 33 (.agg (B (nd k a b c d))) (.agg (B M))).run Tryz.prog w = .ok r w) ∧ Below w.heap.size w w') := by
    rintro w e w' ⟨k', a', b', c', d', rfl, hn, ho, hb⟩
    refine ⟨_, rfl, fun w => ?_, hb⟩
    rw [HEQ.out k' a' b' c' d' hn w, hr, ho]
  obtain ⟨N, hN⟩ : ∃ N, N = nd k a b c d := ⟨_, rfl⟩
  rw [← hN] at H129 HC HP ⊢
  clear h hu hN hr HEQ
  go_enter Tryz.func48, Tryz.ntmps48
  go_wp2_with (first
    | ((with_reducible refine at_bx ?_); refine wpList_bx _ rfl _ _ rfl _ rfl ?_; intro w1 g1 hg1 hl1 B1 b1))
  have HS : Hid (∀ w', Below w1.heap.size w1 w' → w'.rangeAt g1 0 (B N).toList) := fun w' hw' => (B1.grow hw').range
  have d0 : Below w1.heap.size w1 w1.drew := (Below.refl _ _).drew
  refine wp_region_held_drew (S := fun w' => w'.rangeAt g1 0 (B N).toList) (by kernel_rfl) (HS.out _ d0) (fun hHeld => ?_)
  refine wpAnyH_take (i := 0) (v := .agg (B N)) rfl (by kernel_rfl) (by kernel_rfl) (by kernel_rfl) (fun _ _ _ h => h) (yieldsIf_load_mid rfl 33 (.tmp 1) rfl g1 0 rfl (B N).toList _ (fun w hS => hS) HU.out rfl H129.out) hHeld ?_
  simp only [Act.put, List.getElem_toArray, List.getElem_cons_zero, List.setIfInBounds_toArray, List.set_cons_zero, List.set_cons_succ]
  refine wpAnyH_take (i := 1) (v := .agg (B N)) rfl (by kernel_rfl) (by kernel_rfl) (by kernel_rfl) (fun _ _ _ h => h) (yieldsIf_load_mid rfl 33 (.tmp 1) rfl g1 0 rfl (B N).toList _ (fun w hS => hS) HU.out rfl H129.out) hHeld ?_
  simp only [Act.put, List.getElem_toArray, List.getElem_cons_zero, List.getElem_cons_succ, List.setIfInBounds_toArray, List.set_cons_zero, List.set_cons_succ]
  refine wpAnyH_ready (rs := [2]) (by kernel_rfl) (by simp) ?_
  refine AllReadyH.cons rfl (fun KQ hK => ?_) AllReadyH.nil
  go_simp
  refine (HC.out _).mono ?_
  intro e x1 hx
  obtain ⟨M, rfl, hEq, a1⟩ := HP.out _ _ _ hx
  clear hx
  have d1 := grow_trans d0 a1
  refine hK.out _ _ (HS.out _ d1) (fun hHeld => ?_)
  clear hK KQ
  refine wpAnyH_take (i := 3) (v := .bool (!r)) rfl (by kernel_rfl) (by kernel_rfl) (by kernel_rfl) (fun _ _ _ h => h) (Or.inl ⟨by rfl, fun w hS => by (go_simp; skip)⟩) hHeld ?_
  simp only [Act.put, List.getElem_toArray, List.getElem_cons_zero, List.getElem_cons_succ, List.setIfInBounds_toArray, List.set_cons_zero, List.set_cons_succ]
  refine wpAnyH_done (by kernel_rfl) ?_ _
  clear hEq
  cases r
  · go_wp2_with fail
    go_ret
    exact ⟨rfl, grow_trans b1 d1⟩
  · go_wp2_with fail
    go_ret
    exact ⟨rfl, grow_trans b1 d1⟩

end Go.Proofs.YtpihigcnoifcfaaGreatDoor

/- The statements' own helpers on bytes, as contracts: SameBytes, LentBytes, KeptBytes, OverBytes. -/
namespace Go.Proofs.YtpihigcnoifcfaaGreatDoor
set_option maxRecDepth 20000
open Go.RowKit

set_option maxHeartbeats 400000 in
theorem same_any (x y : Value) (xs ys : List Int) (w : World) (hx : Reads w x xs) (hy : Reads w y ys) :
    Calls Tryz.prog 9 #[x, y] w fun e w' => e = .returned (.bool (decide (xs = ys))) ∧ w' = w := by
  have c1 := conv_reads hx
  have c2 := conv_reads hy
  have HB : Hid (((strOfNums xs).toList == (strOfNums ys).toList) = decide (xs = ys)) := by
    obtain ⟨_, _, _, _, _, h1, _⟩ := hx
    obtain ⟨_, _, _, _, _, h2, _⟩ := hy
    exact str_beq xs ys h1 h2
  clear hx hy
  go_enter Tryz.func9, Tryz.ntmps9
  go_wp2
  go_ret
  exact ⟨by rw [← HB.out]; rfl, rfl⟩

/-- The marks that stand in the room behind n lent bytes. -/
def marks (n : Nat) : List Int := (List.range 5).map fun k => 200 + ((n + k : Nat) : Int) % 50

theorem marks_bytes (n : Nat) : Bytes (marks n) := by
  intro z hz
  simp only [marks, List.mem_map] at hz
  obtain ⟨k, _, rfl⟩ := hz
  omega
theorem marks_length (n : Nat) : (marks n).length = 5 := by simp [marks]

theorem lent_start (zs : List Int) : (List.replicate (zs.length + 5) (0 : Int)).take 0 ++ zs.take (zs.length + 5) ++ (List.replicate (zs.length + 5) (0 : Int)).drop (0 + min zs.length (zs.length + 5)) = zs ++ (marks zs.length).take 0 ++ List.replicate (5 - 0) 0 := by
  have : min zs.length (zs.length + 5) = zs.length := by omega
  rw [this, List.take_of_length_le (l := zs) (by omega), List.drop_replicate, List.take_zero, List.take_zero]
  simp

theorem lent_round (zs : List Int) (k : Nat) (hk : k < 5) : (zs ++ (marks zs.length).take k ++ List.replicate (5 - k) (0 : Int)).set (zs.length + k) (200 + ((zs.length + k : Nat) : Int) % 50) = zs ++ (marks zs.length).take (k + 1) ++ List.replicate (5 - (k + 1)) 0 := by
  have e : List.replicate (5 - k) (0 : Int) = 0 :: List.replicate (5 - (k + 1)) 0 := by
    rw [show 5 - k = (5 - (k + 1)) + 1 by omega]; rfl
  have l : (zs ++ (marks zs.length).take k).length = zs.length + k := by simp [marks_length]; omega
  rw [e, List.set_append_right _ _ (by omega), l, Nat.sub_self, List.set_cons_zero]
  rw [show (marks zs.length).take (k + 1) = (marks zs.length).take k ++ [200 + ((zs.length + k : Nat) : Int) % 50] by
    rw [List.take_succ_eq_append_getElem (by rw [marks_length]; exact hk)]
    simp [marks]]
  simp

theorem lent_end (zs : List Int) (k : Nat) (hk : ¬ k < 5) : zs ++ (marks zs.length).take k ++ List.replicate (5 - k) 0 = zs ++ marks zs.length := by
  rw [List.take_of_length_le (by rw [marks_length]; omega), show 5 - k = 0 by omega]
  simp

/-- A byte written over. -/
def x5 (z : Int) : Int := bits .xor .u8 z 90

theorem x5_eq (z : Int) (h : 0 ≤ z ∧ z ≤ 255) : x5 z = ((z.toNat ^^^ 90 : Nat) : Int) := by
  unfold x5
  rw [u8_xor z 90 h.1 (by omega) (by omega) (by omega)]
  rfl
theorem x5_bd (z : Int) (h : 0 ≤ z ∧ z ≤ 255) : 0 ≤ x5 z ∧ x5 z ≤ 255 := by
  rw [x5_eq z h]
  have : z.toNat ^^^ 90 < 2 ^ 8 := Nat.xor_lt_two_pow (by omega) (by omega)
  omega
theorem x5_x5 (z : Int) (h : 0 ≤ z ∧ z ≤ 255) : x5 (x5 z) = z := by
  rw [x5_eq _ (x5_bd z h), x5_eq z h, Int.toNat_natCast, Nat.xor_assoc, Nat.xor_self, Nat.xor_zero]
  omega
theorem Bytes.x5 {zs : List Int} (h : Bytes zs) : Bytes (zs.map x5) := by
  intro z hz
  obtain ⟨y, hy, rfl⟩ := List.mem_map.1 hz
  exact x5_bd y (h y hy)
theorem map_x5 {zs : List Int} (h : Bytes zs) : (zs.map x5).map x5 = zs := by
  rw [List.map_map]
  conv => rhs; rw [← List.map_id zs]
  exact List.map_congr_left fun z hz => x5_x5 z (h z hz)

theorem over_round (zs : List Int) (k : Nat) (hk : k < zs.length) : ((zs.take k).map x5 ++ zs.drop k).set k (x5 (zs.getD k 0)) = (zs.take (k + 1)).map x5 ++ zs.drop (k + 1) := by
  have hd : zs.drop k = zs.getD k 0 :: zs.drop (k + 1) := by
    rw [List.drop_eq_getElem_cons hk]; simp [List.getD, hk]
  have hl : ((zs.take k).map x5).length = k := by simp; omega
  rw [hd, List.set_append_right _ _ (by omega), hl, Nat.sub_self, List.set_cons_zero, take_snoc zs k hk, List.map_append, List.append_assoc]
  rfl

theorem over_get (zs : List Int) (k : Nat) (hk : k < zs.length) : ((zs.take k).map x5 ++ zs.drop k).getD k 0 = zs.getD k 0 := by
  have : ((zs.take k).map x5).length = k := by simp; omega
  simp only [List.getD]
  rw [List.getElem?_append_right (by omega), this, Nat.sub_self]
  simp

end Go.Proofs.YtpihigcnoifcfaaGreatDoor
