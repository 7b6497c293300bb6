/- Nodes by value: 129 bytes in a row: a kind, and four arrays of 32. Their parts, their literals, and that two are held against each other whole. -/
import Derived.Test.YtkhinjkcfjncgaaGreatDoorNa06
import Derived.Test.YtkhinjkcfjncgaaGreatDoorNa10
import Derived.Sort.Statements
namespace Go.Proofs.YtkhinjkcfjncgaaGreatDoor
set_option maxRecDepth 20000
open Go.RowKit

/-- xs lies in zs from o on. -/
def Seg (zs : List Int) (o : Nat) (xs : List Int) : Prop := ∀ j v, xs[j]? = some v → zs[o + j]? = some v

theorem Seg.mid (p xs q : List Int) (o : Nat) (h : p.length = o) : Seg (p ++ (xs ++ q)) o xs := fun j v hj => by
  have hlt : j < xs.length := (List.getElem?_eq_some_iff.1 hj).1
  rw [List.getElem?_append_right (by omega), show o + j - p.length = j by omega, List.getElem?_append_left hlt]
  exact hj

theorem Seg.range {w : World} {g : Nat} {t : TypeId} {zs xs : List Int} {o : Nat} (h : Seg zs o xs) (hb : Blk w g t (B zs)) : w.rangeAt g o (xs.map (Value.int .u8)) := fun j v hv => by
  rw [hb.cell]
  simp only [List.getElem?_map, Option.map_eq_some_iff] at hv
  obtain ⟨z, hz, rfl⟩ := hv
  simp [B, h j z hz]

/-- A node: its kind, its key, its value's digest, both sides'. -/
def nd (k : Int) (a b c d : List Int) : List Int := k :: (a ++ (b ++ (c ++ d)))
def z32 : List Int := List.replicate 32 0
theorem z32_length : z32.length = 32 := rfl
theorem z32_bytes : Bytes z32 := fun z hz => by rw [List.eq_of_mem_replicate hz]; omega

/-- What a node's fields are. -/
structure Nd (k : Int) (a b c d : List Int) : Prop where
  k0 : 0 ≤ k
  k1 : k < 256
  la : a.length = 32
  lb : b.length = 32
  lc : c.length = 32
  ld : d.length = 32
  ba : Bytes a
  bb : Bytes b
  bc : Bytes c
  bd : Bytes d

theorem Nd.length {k : Int} {a b c d : List Int} (h : Nd k a b c d) : (nd k a b c d).length = 129 := by simp [nd, h.la, h.lb, h.lc, h.ld]
theorem Nd.size {k : Int} {a b c d : List Int} (h : Nd k a b c d) : (B (nd k a b c d)).size = 129 := by rw [B_size, h.length]
theorem Nd.segA {k : Int} {a b c d : List Int} (_ : Nd k a b c d) : Seg (nd k a b c d) 1 a := Seg.mid [k] a _ 1 rfl
theorem Nd.segB {k : Int} {a b c d : List Int} (h : Nd k a b c d) : Seg (nd k a b c d) 33 b := by
  have := Seg.mid (k :: a) b (c ++ d) 33 (by simp [h.la])
  simpa [nd] using this
theorem Nd.segC {k : Int} {a b c d : List Int} (h : Nd k a b c d) : Seg (nd k a b c d) 65 c := by
  have := Seg.mid (k :: (a ++ b)) c d 65 (by simp [h.la, h.lb])
  simpa [nd] using this
theorem Nd.segD {k : Int} {a b c d : List Int} (h : Nd k a b c d) : Seg (nd k a b c d) 97 d := by
  have := Seg.mid (k :: (a ++ (b ++ c))) d [] 97 (by simp [h.la, h.lb, h.lc])
  simpa [nd] using this
theorem Nd.bytes {k : Int} {a b c d : List Int} (h : Nd k a b c d) : Bytes (nd k a b c d) := fun z hz => by
  have hk := h.k0; have hk1 := h.k1
  simp only [nd, List.mem_cons, List.mem_append] at hz
  rcases hz with rfl | hz | hz | hz | hz
  · omega
  · exact h.ba z hz
  · exact h.bb z hz
  · exact h.bc z hz
  · exact h.bd z hz

theorem nd_inj {k k' : Int} {a b c d a' b' c' d' : List Int} (h : Nd k a b c d) (h' : Nd k' a' b' c' d') : nd k a b c d = nd k' a' b' c' d' ↔ k = k' ∧ a = a' ∧ b = b' ∧ c = c' ∧ d = d' := by
  unfold nd
  constructor
  · intro e
    injection e with e1 e2
    obtain ⟨e3, e4⟩ := List.append_inj e2 (by rw [h.la, h'.la])
    obtain ⟨e5, e6⟩ := List.append_inj e4 (by rw [h.lb, h'.lb])
    obtain ⟨e7, e8⟩ := List.append_inj e6 (by rw [h.lc, h'.lc])
    exact ⟨e1, e3, e5, e7, e8⟩
  · rintro ⟨rfl, rfl, rfl, rfl, rfl⟩
    rfl

/-- Every list of 129 bytes is a node. -/
theorem nd_of (zs : List Int) (h : zs.length = 129) (hb : Bytes zs) : ∃ k a b c d, zs = nd k a b c d ∧ Nd k a b c d := by
  match zs, h with
  | k :: r, h =>
    have hr : r.length = 128 := by simpa using h
    have e : r = r.take 32 ++ ((r.drop 32).take 32 ++ ((r.drop 64).take 32 ++ (r.drop 96))) := by
      have e1 : r.drop 64 = (r.drop 64).take 32 ++ r.drop 96 := by
        have := (List.take_append_drop 32 (r.drop 64)).symm
        rwa [List.drop_drop] at this
      have e2 : r.drop 32 = (r.drop 32).take 32 ++ r.drop 64 := by
        have := (List.take_append_drop 32 (r.drop 32)).symm
        rwa [List.drop_drop] at this
      rw [← e1, ← e2, List.take_append_drop]
    refine ⟨k, r.take 32, (r.drop 32).take 32, (r.drop 64).take 32, r.drop 96, by rw [nd, ← e], ?_⟩
    have hm : ∀ z ∈ r, 0 ≤ z ∧ z ≤ 255 := fun z hz => hb z (by simp [hz])
    have hk := hb k (by simp)
    exact ⟨by omega, by omega, by simp [hr], by simp [hr], by simp [hr], by simp [hr],
      fun z hz => hm z (List.mem_of_mem_take hz), fun z hz => hm z (List.mem_of_mem_drop (List.mem_of_mem_take hz)), fun z hz => hm z (List.mem_of_mem_drop (List.mem_of_mem_take hz)), fun z hz => hm z (List.mem_of_mem_drop hz)⟩

theorem u_node : ∃ fs, Tryz.prog.underlying 143 = some (.struct fs) := ⟨_, Tryz.underlying143⟩

theorem size_node : (Tryz.prog.info? 143).map (·.size) = some 129 := by kernel_rfl

theorem sz_path : (Tryz.prog.info? 72).map (·.size) = some 32 := by kernel_rfl

theorem sz_hash : (Tryz.prog.info? 103).map (·.size) = some 32 := by kernel_rfl

theorem zero_node : ∀ w, (zeroValue 143).run Tryz.prog w = .ok (.agg (B (List.replicate 129 0))) w := zero_of_info (n := 129) (by kernel_rfl) |>.1

/-- load of a part of a block of bytes. -/
theorem wpList_ldm {ops : Array Oper} {rest : List Oper} {op : Oper} {a : Act} {Q : Exit → Act → World → Prop} (w : World) (hgd : op.guard = none) (x : Operand) (ty : TypeId) (ho : op.op = .load ty x)
    (g o : Nat) (t : TypeId) (zs xs : List Int) (hx : a.eval x = .pointer (some ⟨g, o, none⟩)) (h : Blk w g t (B zs)) (hs : Seg zs o xs) (n : Nat) (e : TypeId) (hu : Tryz.prog.underlying ty = some (.array n e)) (hi : (Tryz.prog.info? ty).map (·.size) = some xs.length)
    (hk : wpList Tryz.prog ops Q rest (a.put op.dst (.agg (B xs))) w) : wpList Tryz.prog ops Q (op :: rest) a w :=
  wpList_load_mid hgd ty x ho g o hx (xs.map (Value.int .u8)) _ (hs.range h) hu rfl (by rw [hi]; simp) hk

/-- The kind of a node in a block. -/
theorem Nd.kind {w : World} {g : Nat} {t : TypeId} {k : Int} {a b c d : List Int} (h : Blk w g t (B (nd k a b c d))) : w.cell? ⟨g, 0, none⟩ = some (.int .u8 k) := by
  rw [h.cell]
  simp [B, nd]

/-! ### Literals -/
theorem fold_put (off : Nat) : ∀ (xs : List Value) (s : Nat) (zs : List Value), off + s + xs.length ≤ zs.length →
    (xs.zipIdx s).foldl (fun (cs : Array Value) (p : Value × Nat) => cs.setIfInBounds (off + p.2) p.1) zs.toArray = (zs.take (off + s) ++ xs ++ zs.drop (off + s + xs.length)).toArray
  | [], s, zs, _ => by simp
  | x :: xs, s, zs, h => by
    rw [List.zipIdx_cons, List.foldl_cons]
    have e : zs.toArray.setIfInBounds (off + s) x = (zs.set (off + s) x).toArray := by simp
    rw [e, fold_put off xs (s + 1) _ (by simp at h ⊢; omega)]
    congr 1
    have h1 : off + s < zs.length := by simp at h; omega
    rw [show off + (s + 1) = off + s + 1 by omega, List.take_add_one]
    simp only [List.length_cons]
    rw [List.take_set_of_le (by omega), List.getElem?_set_self h1, List.drop_set_of_lt (by omega)]
    simp [show off + s + 1 + xs.length = off + s + (xs.length + 1) by omega]

theorem fill_one (place : Nat → Option (Nat × Nat)) (i off n : Nat) (v : Value) (xs zs : List Value) (rest : List (Nat × Value)) (hp : place i = some (off, n)) (hv : v.cells = xs.toArray) (hn : xs.length = n) (hz : off + n ≤ zs.length) :
    Instr.fill place zs.toArray ((i, v) :: rest) = Instr.fill place (zs.take off ++ xs ++ zs.drop (off + n)).toArray rest := by
  have h1 : ¬ ((v.cells.size ≠ n || off + v.cells.size > zs.toArray.size) = true) := by
    rw [hv]
    simp
    omega
  have h2 := fold_put off xs 0 zs (by omega)
  simp only [Nat.add_zero, hn] at h2
  rw [Instr.fill, hp]
  simp only
  rw [if_neg h1, hv]
  congr 1
  rw [← h2, show xs.toArray.zipIdx = xs.zipIdx.toArray by apply Array.ext <;> simp, List.foldl_toArray]

def ndPlaces : Nat → Option (Nat × Nat) := fun i => (#[(0, 1), (1, 32), (33, 32), (65, 32), (97, 32)] : Array (Nat × Nat))[i]?

theorem built_eq (ps : List (Nat × Value)) : Tryz.prog.built 143 ps = Instr.fill ndPlaces (B (List.replicate 129 0)) ps := by kernel_rfl

theorem rep129 : B (List.replicate 129 0) = ((0 :: (z32 ++ (z32 ++ (z32 ++ z32)))).map (Value.int .u8)).toArray := rfl

theorem cells_b (xs : List Int) : (Value.agg (B xs)).cells = (xs.map (Value.int .u8)).toArray := rfl

theorem built_empty : Tryz.prog.built 143 [] = some (B (nd 0 z32 z32 z32 z32)) := by
  rw [built_eq]
  rfl

theorem built_leaf (a b : List Int) (ha : a.length = 32) (hb : b.length = 32) : Tryz.prog.built 143 [(0, .int .u8 1), (1, .agg (B a)), (2, .agg (B b))] = some (B (nd 1 a b z32 z32)) := by
  rw [built_eq, rep129, fill_one ndPlaces 0 0 1 _ [.int .u8 1] _ _ rfl rfl rfl (by simp [z32]), fill_one ndPlaces 1 1 32 _ (a.map (Value.int .u8)) _ _ rfl (cells_b a) (by simp [ha]) (by simp [z32]), fill_one ndPlaces 2 33 32 _ (b.map (Value.int .u8)) _ _ rfl (cells_b b) (by simp [hb]) (by simp [z32, ha]), Instr.fill]
  congr 1
  unfold B nd
  congr 1
  simp [z32, ha, List.drop_append]

theorem built_inner (c d : List Int) (hc : c.length = 32) (hd : d.length = 32) : Tryz.prog.built 143 [(0, .int .u8 2), (3, .agg (B c)), (4, .agg (B d))] = some (B (nd 2 z32 z32 c d)) := by
  rw [built_eq, rep129, fill_one ndPlaces 0 0 1 _ [.int .u8 2] _ _ rfl rfl rfl (by simp [z32]), fill_one ndPlaces 3 65 32 _ (c.map (Value.int .u8)) _ _ rfl (cells_b c) (by simp [hc]) (by simp [z32]), fill_one ndPlaces 4 97 32 _ (d.map (Value.int .u8)) _ _ rfl (cells_b d) (by simp [hd]) (by simp [z32, hc]), Instr.fill]
  congr 1
  unfold B nd
  congr 1
  simp [z32, hc, List.drop_append]

/-! ### Equality -/
theorem part_seg {ty : TypeId} (zs xs : List Int) (o : Nat) (n : Nat) (e : TypeId) (hu : Tryz.prog.underlying ty = some (.array n e)) (hi : (Tryz.prog.info? ty).map (·.size) = some xs.length) (hs : Seg zs o xs) (w : World) :
    (part ty (B zs) o).run Tryz.prog w = .ok (.agg (B xs)) w := by
  cases hq : Tryz.prog.info? ty with
  | none => simp [hq] at hi
  | some i =>
    have hz : i.size = xs.length := by simpa [hq] using hi
    have hagg : (isAgg ty).run Tryz.prog w = .ok true w := by
      unfold isAgg
      rw [Sem.run_bind, run_underlying hu w]
      rfl
    have hex : (B zs).extract o (o + xs.length) = B xs := by
      apply Array.ext'
      simp only [Array.toList_extract, B_toList, List.extract_eq_take_drop]
      rw [← List.map_drop, ← List.map_take]
      congr 1
      apply List.ext_getElem?
      intro j
      rw [show o + xs.length - o = xs.length by omega, List.getElem?_take, List.getElem?_drop]
      by_cases hj : j < xs.length
      · rw [if_pos hj]
        have := hs j xs[j] (by simp)
        rw [this]
        simp
      · rw [if_neg hj, List.getElem?_eq_none (by omega)]
    simp [part, Sem.run_bind, hagg, sizeOf, typeInfo, hq, hz, hex]

theorem part_kind (k : Int) (a b c d : List Int) (w : World) : (part 112 (B (nd k a b c d)) 0).run Tryz.prog w = .ok (.int .u8 k) w := by
  have hagg : (isAgg 112).run Tryz.prog w = .ok false w := Tryz.isAgg112 w
  unfold part
  rw [Sem.run_bind, hagg]
  simp [B, nd]

theorem arr_eqd (d : Nat) {t : TypeId} (ht : Tryz.prog.underlying t = some (.array 32 5)) (xs ys : List Int) (hx : xs.length = 32) (hy : ys.length = 32) (w : World) : (Op.equalIn (d + 1 + 1) t (.agg (B xs)) (.agg (B ys))).run Tryz.prog w = .ok (decide (xs = ys)) w := by
  obtain ⟨i, hi⟩ : ∃ i, Tryz.prog.info? 5 = some i := ⟨_, rfl⟩
  rw [run_equalIn_array (P := Tryz.prog) w (d + 1) (B xs) (B ys) ht hi, cellsOf_byte,
    items_eq u_byte Tryz.isAgg5 d xs ys (B xs) (B ys) (fun i hi => B_get xs i hi) (fun i hi => B_get ys i hi) w _ (fun i hi => by rw [hx, hy]; simpa using hi), all_same 32 xs ys hx hy]

theorem eqF_cons {d : Nat} {xs ys : Array Value} {f : Field} {fs : List Field} {u v : Value} {r : Bool} {w : World} (hn : f.name ≠ "_") (hu : (part f.type xs f.offset).run Tryz.prog w = .ok u w) (hv : (part f.type ys f.offset).run Tryz.prog w = .ok v w) (hr : (Op.equalIn d f.type u v).run Tryz.prog w = .ok r w) :
    (Op.eqFields d xs ys (f :: fs)).run Tryz.prog w = if r = true then (Op.eqFields d xs ys fs).run Tryz.prog w else .ok false w := by
  rw [Op.eqFields, if_pos hn]
  simp only [Sem.run_bind, hu, hv, hr, Result.andThen_ok]
  cases r <;> simp

theorem node_eq {k k' : Int} {a b c d a' b' c' d' : List Int} (h : Nd k a b c d) (h' : Nd k' a' b' c' d') (w : World) :
    (Op.equalIn 10000 143 (.agg (B (nd k a b c d))) (.agg (B (nd k' a' b' c' d')))).run Tryz.prog w = .ok (decide (nd k a b c d = nd k' a' b' c' d')) w := by
  have hf : ∃ f0 f1 f2 f3 f4 : Field, (Tryz.prog.fieldsOf 143).toList = [f0, f1, f2, f3, f4] ∧ (f0.name ≠ "_" ∧ f0.type = 112 ∧ f0.offset = 0) ∧ (f1.name ≠ "_" ∧ f1.type = 72 ∧ f1.offset = 1) ∧ (f2.name ≠ "_" ∧ f2.type = 103 ∧ f2.offset = 33) ∧ (f3.name ≠ "_" ∧ f3.type = 103 ∧ f3.offset = 65) ∧ (f4.name ≠ "_" ∧ f4.type = 103 ∧ f4.offset = 97) :=
    ⟨_, _, _, _, _, rfl, ⟨by decide, rfl, rfl⟩, ⟨by decide, rfl, rfl⟩, ⟨by decide, rfl, rfl⟩, ⟨by decide, rfl, rfl⟩, ⟨by decide, rfl, rfl⟩⟩
  obtain ⟨f0, f1, f2, f3, f4, hF, ⟨n0, t0, o0⟩, ⟨n1, t1, o1⟩, ⟨n2, t2, o2⟩, ⟨n3, t3, o3⟩, ⟨n4, t4, o4⟩⟩ := hf
  have hu : Tryz.prog.underlying 143 = some (.struct (Tryz.prog.fieldsOf 143)) := by kernel_rfl
  have pa := fun w => part_seg (nd k a b c d) a 1 32 _ Tryz.underlying72 (by rw [sz_path, h.la]) h.segA w
  have pb := fun w => part_seg (nd k a b c d) b 33 32 _ Tryz.underlying103 (by rw [sz_hash, h.lb]) h.segB w
  have pc := fun w => part_seg (nd k a b c d) c 65 32 _ Tryz.underlying103 (by rw [sz_hash, h.lc]) h.segC w
  have pd := fun w => part_seg (nd k a b c d) d 97 32 _ Tryz.underlying103 (by rw [sz_hash, h.ld]) h.segD w
  have qa := fun w => part_seg (nd k' a' b' c' d') a' 1 32 _ Tryz.underlying72 (by rw [sz_path, h'.la]) h'.segA w
  have qb := fun w => part_seg (nd k' a' b' c' d') b' 33 32 _ Tryz.underlying103 (by rw [sz_hash, h'.lb]) h'.segB w
  have qc := fun w => part_seg (nd k' a' b' c' d') c' 65 32 _ Tryz.underlying103 (by rw [sz_hash, h'.lc]) h'.segC w
  have qd := fun w => part_seg (nd k' a' b' c' d') d' 97 32 _ Tryz.underlying103 (by rw [sz_hash, h'.ld]) h'.segD w
  have ek : ∀ w, (Op.equalIn 9999 112 (.int .u8 k) (.int .u8 k')).run Tryz.prog w = .ok (k == k') w := fun w => run_equalIn_int (P := Tryz.prog) (w := w) 9998 112 .u8 .u8 k k' Tryz.underlying112
  have ea : ∀ w, (Op.equalIn 9999 72 (.agg (B a)) (.agg (B a'))).run Tryz.prog w = .ok (decide (a = a')) w := fun w => arr_eqd 9997 Tryz.underlying72 a a' h.la h'.la w
  have eb : ∀ w, (Op.equalIn 9999 103 (.agg (B b)) (.agg (B b'))).run Tryz.prog w = .ok (decide (b = b')) w := fun w => arr_eqd 9997 Tryz.underlying103 b b' h.lb h'.lb w
  have ec : ∀ w, (Op.equalIn 9999 103 (.agg (B c)) (.agg (B c'))).run Tryz.prog w = .ok (decide (c = c')) w := fun w => arr_eqd 9997 Tryz.underlying103 c c' h.lc h'.lc w
  have ed : ∀ w, (Op.equalIn 9999 103 (.agg (B d)) (.agg (B d'))).run Tryz.prog w = .ok (decide (d = d')) w := fun w => arr_eqd 9997 Tryz.underlying103 d d' h.ld h'.ld w
  rw [show (10000 : Nat) = 9999 + 1 from rfl, run_equalIn_struct w 9999 143 _ _ hu (by kernel_rfl), hF,
    eqF_cons n0 (by rw [t0, o0]; exact part_kind k a b c d w) (by rw [t0, o0]; exact part_kind k' a' b' c' d' w) (by rw [t0]; exact ek w),
    eqF_cons n1 (by rw [t1, o1]; exact pa w) (by rw [t1, o1]; exact qa w) (by rw [t1]; exact ea w),
    eqF_cons n2 (by rw [t2, o2]; exact pb w) (by rw [t2, o2]; exact qb w) (by rw [t2]; exact eb w),
    eqF_cons n3 (by rw [t3, o3]; exact pc w) (by rw [t3, o3]; exact qc w) (by rw [t3]; exact ec w),
    eqF_cons n4 (by rw [t4, o4]; exact pd w) (by rw [t4, o4]; exact qd w) (by rw [t4]; exact ed w)]
  rw [show decide (nd k a b c d = nd k' a' b' c' d') = decide (k = k' ∧ a = a' ∧ b = b' ∧ c = c' ∧ d = d') by simp only [nd_inj h h']]
  simp only [Op.eqFields, Sem.run_pure]
  by_cases e0 : k = k' <;> by_cases e1 : a = a' <;> by_cases e2 : b = b' <;> by_cases e3 : c = c' <;> by_cases e4 : d = d' <;> simp [e0, e1, e2, e3, e4]

end Go.Proofs.YtkhinjkcfjncgaaGreatDoor

/- Leaves: a key and its value's digest; their order; where they part; the root of a list of leaves. No program in this text. -/
namespace Go.Proofs.YtkhinjkcfjncgaaGreatDoor
set_option maxRecDepth 20000
open Go.RowKit

structure Lf where
  key : List Int
  val : List Int
  hk : Key key
  hl : val.length = 32
  hb : Bytes val

instance : Inhabited Lf := ⟨⟨z32, z32, ⟨rfl, z32_bytes⟩, rfl, z32_bytes⟩⟩

theorem Lf.nd (x : Lf) : Nd 1 x.key x.val z32 z32 := ⟨by omega, by omega, x.hk.1, x.hl, rfl, rfl, x.hk.2, x.hb, z32_bytes, z32_bytes⟩
def Lf.ints (x : Lf) : List Int := Go.Proofs.YtkhinjkcfjncgaaGreatDoor.nd 1 x.key x.val z32 z32
theorem Lf.ints_length (x : Lf) : x.ints.length = 129 := x.nd.length
def encLf (x : Lf) : List Value := x.ints.map (Value.int .u8)
theorem encLf_length (x : Lf) : (encLf x).length = 129 := by simp [encLf, x.ints_length]
theorem encLf_one (x : Lf) : ∀ v ∈ encLf x, v.oneCell' = true := fun v hv => by
  obtain ⟨z, _, rfl⟩ := List.mem_map.1 hv
  rfl
theorem encLf_array (x : Lf) : (encLf x).toArray = B (Go.Proofs.YtkhinjkcfjncgaaGreatDoor.nd 1 x.key x.val z32 z32) := rfl

def cfLf (x y : Lf) : Int := cmp x.key y.key

theorem Ahead.trans {a b c : List Int} (h : Ahead a b) (k : Ahead b c) : Ahead a c := by
  obtain ⟨i, hi, h1, h2, h3⟩ := h
  obtain ⟨j, hj, k1, k2, k3⟩ := k
  rcases Nat.lt_trichotomy i j with e | e | e
  · exact ⟨i, hi, fun q hq => (h1 q hq).trans (k1 q (by omega)), h2, by rw [← k1 i e]; exact h3⟩
  · subst e
    omega
  · exact ⟨j, hj, fun q hq => (h1 q (by omega)).trans (k1 q hq), by rw [h1 j e]; exact k2, k3⟩
theorem Ahead.irrefl (a : List Int) : ¬ Ahead a a := fun ⟨_, _, _, h2, h3⟩ => by omega
theorem ahead_total {a b : List Int} (ha : Key a) (hb : Key b) (h : ¬ Ahead a b) : a = b ∨ Ahead b a := by
  rcases cmp_key ha hb with ⟨_, e⟩ | ⟨_, e⟩ | ⟨_, e⟩
  · exact .inl e
  · exact absurd e h
  · exact .inr e

theorem cfLf_lt (x y : Lf) : decide (cfLf x y < 0) = true ↔ Ahead x.key y.key := by
  rw [decide_eq_true_iff]
  exact cmp_lt x.hk y.hk

theorem swoLf : Go.Sort.SWO (fun x y : Lf => decide (cfLf x y < 0)) where
  irrefl x := by
    rw [← Bool.not_eq_true, cfLf_lt]
    exact Ahead.irrefl _
  trans x y z h1 h2 := by
    rw [cfLf_lt] at *
    exact h1.trans h2
  ntrans x y z h1 h2 := by
    rw [← Bool.not_eq_true, cfLf_lt] at *
    intro h3
    rcases ahead_total x.hk y.hk h1 with e | e
    · rw [e] at h3
      exact h2 h3
    · exact h2 (e.trans h3)

/-- Rising, by key. -/
def Rise (l : List Lf) : Prop := l.Pairwise fun a b => Ahead a.key b.key
theorem Rise.sub {l m : List Lf} (h : Rise l) (k : m.Sublist l) : Rise m := h.sublist k

/-- All keys have the same first d bits. -/
def Same (l : List Lf) (d : Nat) : Prop := ∀ a ∈ l, ∀ b ∈ l, ∀ j, j < d → kb a.key j = kb b.key j
theorem Same.sub {l m : List Lf} {d : Nat} (h : Same l d) (k : ∀ x ∈ m, x ∈ l) : Same m d := fun a ha b hb j hj => h a (k a ha) b (k b hb) j hj

def sdL (l : List Lf) (d : Nat) (b : Int) : List Lf := l.filter fun x => kb x.key d == b
theorem Same.side {l : List Lf} {d : Nat} (b : Int) (h : Same l d) : Same (sdL l d b) (d + 1) := by
  intro x hx y hy j hj
  unfold sdL at hx hy
  rw [List.mem_filter, beq_iff_eq] at hx hy
  by_cases e : j = d
  · rw [e, hx.2, hy.2]
  · exact h x hx.1 y hy.1 j (by omega)
theorem Rise.side {l : List Lf} (d : Nat) (b : Int) (h : Rise l) : Rise (sdL l d b) := h.sub List.filter_sublist

theorem kb_bit (a : List Int) (d : Nat) : kb a d = 0 ∨ kb a d = 1 := by
  unfold kb bt
  omega

/-- As they rise and have the same first d bits, those whose bit d is 0 stand ahead. -/
theorem part_at : ∀ (l : List Lf) (d : Nat), d < 256 → Rise l → Same l d → l.take (l.countP fun x => !(kb x.key d == 1)) = sdL l d 0 ∧ l.drop (l.countP fun x => !(kb x.key d == 1)) = sdL l d 1
  | [], d, _, _, _ => ⟨rfl, rfl⟩
  | a :: r, d, hd, hr, hs => by
    have hr' : Rise r := (List.pairwise_cons.1 hr).2
    have hs' : Same r d := hs.sub fun x hx => by simp [hx]
    obtain ⟨i1, i2⟩ := part_at r d hd hr' hs'
    rcases kb_bit a.key d with e | e
    · have e1 : (kb a.key d == 1) = false := by simp [e]
      have e0 : (kb a.key d == 0) = true := by simp [e]
      rw [List.countP_cons_of_pos (by simp [e1])]
      constructor
      · rw [List.take_succ_cons, i1]
        unfold sdL
        rw [List.filter_cons_of_pos (p := fun x : Lf => kb x.key d == 0) e0]
      · rw [List.drop_succ_cons, i2]
        unfold sdL
        rw [List.filter_cons_of_neg (by simp [e1])]
    · have hall : ∀ x ∈ r, kb x.key d = 1 := by
        intro x hx
        rcases kb_bit x.key d with q | q
        · have h1 : Ahead x.key a.key := ⟨d, hd, fun j hj => hs x (by simp [hx]) a (by simp) j hj, q, e⟩
          exact absurd (((List.pairwise_cons.1 hr).1 x hx).trans h1) (Ahead.irrefl _)
        · exact q
      have e1 : (kb a.key d == 1) = true := by simp [e]
      have hc : (a :: r).countP (fun x => !(kb x.key d == 1)) = 0 := by
        rw [List.countP_eq_zero]
        intro x hx
        rcases List.mem_cons.1 hx with rfl | hx
        · simp [e1]
        · simp [hall x hx]
      rw [hc]
      constructor
      · rw [List.take_zero]
        symm
        unfold sdL
        rw [List.filter_eq_nil_iff]
        intro x hx
        rcases List.mem_cons.1 hx with rfl | hx
        · simp [e]
        · simp [hall x hx]
      · rw [List.drop_zero]
        symm
        unfold sdL
        rw [List.filter_eq_self]
        intro x hx
        rcases List.mem_cons.1 hx with rfl | hx
        · exact e1
        · simp [hall x hx]

/-- Once one bit is 1, all behind it are. -/
theorem part_mono (l : List Lf) (d : Nat) (hd : d < 256) (hr : Rise l) (hs : Same l d) : ∀ a b, a ≤ b → b < l.length → (kb l[a]!.key d == 1) = true → (kb l[b]!.key d == 1) = true := by
  intro a b hab hb h1
  rcases Nat.lt_or_eq_of_le hab with e | e
  · have ha : a < l.length := by omega
    rw [getElem!_pos l a ha] at h1
    rw [getElem!_pos l b hb]
    have hA := List.pairwise_iff_getElem.1 hr a b ha hb e
    rcases kb_bit l[b].key d with q | q
    · have h2 : Ahead l[b].key l[a].key := ⟨d, hd, fun j hj => hs _ (List.getElem_mem hb) _ (List.getElem_mem ha) j hj, q, by simpa using h1⟩
      exact absurd (hA.trans h2) (Ahead.irrefl _)
    · simp [q]
  · rw [← e]
    exact h1

/-- The root of leaves at the depth d; n: how many depths are left. -/
def rtL : Nat → Nat → List Lf → List Int
  | _, _, [] => emD
  | _, _, [x] => lfD x.key x.val
  | 0, _, _ :: _ :: _ => inD emD emD
  | n + 1, d, a :: b :: l => inD (rtL n (d + 1) (sdL (a :: b :: l) d 0)) (rtL n (d + 1) (sdL (a :: b :: l) d 1))
theorem rtL_nil (n d : Nat) : rtL n d [] = emD := by cases n <;> rfl
theorem rtL_one (n d : Nat) (x : Lf) : rtL n d [x] = lfD x.key x.val := by cases n <;> rfl
theorem rtL_more (n d : Nat) (l : List Lf) (h : 2 ≤ l.length) : rtL (n + 1) d l = inD (rtL n (d + 1) (sdL l d 0)) (rtL n (d + 1) (sdL l d 1)) := by
  match l, h with
  | a :: b :: l, _ => rfl

theorem rtL_perm : ∀ (n d : Nat) (l m : List Lf), l.Perm m → rtL n d l = rtL n d m := by
  intro n
  induction n with
  | zero =>
    intro d l m h
    match l, m, h with
    | [], m, h => rw [List.nil_perm.1 h]
    | [e], m, h => rw [List.singleton_perm.1 h]
    | a :: b :: l, [], h => exact absurd h.length_eq (by simp)
    | a :: b :: l, [e], h => exact absurd h.length_eq (by simp)
    | a :: b :: l, c :: d :: m, h => rfl
  | succ n ih =>
    intro d l m h
    match l, m, h with
    | [], m, h => rw [List.nil_perm.1 h]
    | [e], m, h => rw [List.singleton_perm.1 h]
    | a :: b :: l, m, h =>
      have h2 : 2 ≤ m.length := by rw [← h.length_eq]; simp
      have hs : ∀ c, (sdL (a :: b :: l) d c).Perm (sdL m d c) := fun c => h.filter _
      rw [rtL_more n d _ (by simp), rtL_more n d m h2, ih (d + 1) _ _ (hs 0), ih (d + 1) _ _ (hs 1)]

/-- Leaves with the same 256 bits that rise are one at most. -/
theorem Rise.few {l : List Lf} (h : Rise l) (hs : Same l 256) : l.length ≤ 1 := by
  match l, h, hs with
  | [], _, _ => simp
  | [x], _, _ => simp
  | a :: b :: r, h, hs =>
    obtain ⟨c, hc, h1, h2, h3⟩ := (List.pairwise_cons.1 h).1 b (by simp)
    have := hs a (by simp) b (by simp) c hc
    omega

theorem dig_by (l : List Int) : Bytes (dig l) := dig_bytes l

instance (xs : List Int) : Decidable (Key xs) := inferInstanceAs (Decidable (xs.length = 32 ∧ ∀ z ∈ xs, 0 ≤ z ∧ z ≤ 255))

/-- An entry's leaf. -/
def mkLf (e : Ent) : Lf := if h : Key e.1 then ⟨e.1, vaD e.2, h, dig_length _, dig_by _⟩ else default
theorem mkLf_key {e : Ent} (h : Key e.1) : (mkLf e).key = e.1 := by rw [mkLf, dif_pos h]
theorem mkLf_val {e : Ent} (h : Key e.1) : (mkLf e).val = vaD e.2 := by rw [mkLf, dif_pos h]

theorem side_map (l : List Ent) (d : Nat) (b : Int) (hd : d < 256) (hk : ∀ e ∈ l, Key e.1) : sdL (l.map mkLf) d b = (sideOf l d b).map mkLf := by
  unfold sdL sideOf
  rw [List.filter_map]
  congr 1
  apply List.filter_congr
  intro e he
  simp only [Function.comp]
  rw [mkLf_key (hk e he), kbi_in _ _ hd]

theorem rt_map : ∀ (n d : Nat) (l : List Ent), d + n = 256 → (∀ e ∈ l, Key e.1) → rtL n d (l.map mkLf) = rt n d l := by
  intro n
  induction n with
  | zero =>
    intro d l _ hk
    match l, hk with
    | [], _ => rfl
    | [e], hk => rw [List.map_singleton, rtL_one, rt_one, enD, mkLf_key (hk e (by simp)), mkLf_val (hk e (by simp))]
    | a :: b :: l, _ => rfl
  | succ n ih =>
    intro d l hd hk
    match l, hk with
    | [], _ => rfl
    | [e], hk => rw [List.map_singleton, rtL_one, rt_one, enD, mkLf_key (hk e (by simp)), mkLf_val (hk e (by simp))]
    | a :: b :: l, hk =>
      have hs : ∀ c, ∀ e ∈ sideOf (a :: b :: l) d c, Key e.1 := fun c e he => hk e (List.mem_filter.1 he).1
      rw [rtL_more n d _ (by simp), rt_more n d _ (by simp), side_map _ d 0 (by omega) hk, side_map _ d 1 (by omega) hk, ih (d + 1) _ (by omega) (hs 0), ih (d + 1) _ (by omega) (hs 1)]

end Go.Proofs.YtkhinjkcfjncgaaGreatDoor
