/- What an argument is in memory that is a call of put's laws, or a list of them. -/
import Derived.Test.YtbkolhhgajkjjaaGreatDoorPo51
namespace Go.Proofs.YtbkolhhgajkjjaaGreatDoor
set_option maxHeartbeats 8000000
set_option maxRecDepth 20000
open Go.ChangeShapes Go.WideShapes Go.ChangeAt Go.RowKit
structure Ap where
 k : Int
 K : List Int
 v : Value
 bs : List Int
 h : Int
def apC (q : Ap) : List Value := apL q.k q.K q.v q.h
instance : Inhabited Ap := ⟨⟨0, z32, .slice none 0 0, [], 0⟩⟩
theorem Zkg : Tryz.prog.cellsOf 47 = 35 := by kernel_rfl
theorem Zke : Tryz.prog.cellsOf 3 = 1 := by kernel_rfl
theorem Zxf : Tryz.prog.cellsOf 32 = 1 := by kernel_rfl
theorem Zgz {H : Type} {P : Program} {e : TypeId} {d : DataW H} {n : Nat} (hn : n ∈ d.weights P e) : ∀ l : List (DataW H), d ∈ l → n ∈ DataW.weightsAll P e l
 | [], h => by simp at h
 | x :: r, h => by
  simp only [DataW.weightsAll, List.mem_append]
  rcases List.mem_cons.1 h with rfl | h
  ·exact .inl hn
  ·exact .inr (Zgz hn r h)
theorem Zov (cs : List Value) (i : Nat) (h : i < cs.length) : ∃ u, (cs.drop i).take 1 = [u] ∧ cs[i]? = some u := by
 refine ⟨cs[i], ?_, List.getElem?_eq_getElem h⟩
 rw [List.drop_eq_getElem_cons h]
 rfl
theorem Zlx {H : Type} {enc : TypeId × Value → H} {W : World} {fuel : Nat} {cs : List Value} {z : DataW H × List MemPlace} (h : DataW.trod enc Tryz.prog W 0 (fun _ => true) true fuel 47 cs = some z) (hw : ∀ m ∈ z.1.weights Tryz.prog 47, m ≤ reachBytes) :
  ∃ q : Ap, cs = apC q ∧ Key q.K ∧ Reads W q.v q.bs ∧ q.bs.length ≤ 140737488355328 - 4096 := by
 have hF : ∃ f0 f1 f2 f3 : Field, Tryz.prog.underlying 47 = some (.struct #[f0, f1, f2, f3]) ∧ (f0.type = 3 ∧ f0.offset = 0) ∧ (f1.type = 31 ∧ f1.offset = 1) ∧ (f2.type = 32 ∧ f2.offset = 33) ∧ (f3.type = 3 ∧ f3.offset = 34) := ⟨_, _, _, _, Tryz.underlying47, ⟨rfl, rfl⟩, ⟨rfl, rfl⟩, ⟨rfl, rfl⟩, ⟨rfl, rfl⟩⟩
 obtain ⟨f0, f1, f2, f3, hu, ⟨t0, o0⟩, ⟨t1, o1⟩, ⟨t2, o2⟩, ⟨t3, o3⟩⟩ := hF
 obtain ⟨xs, n, hk, hxy, hl, hxl, hf⟩ := DataW.trod_struct hu h
 rw [Zkg] at hl
 match xs, hxl with
 | [y0, y1, y2, y3], _ =>
  have g0 : DataW.trod enc Tryz.prog W 0 (fun _ => true) true n f0.type ((cs.drop f0.offset).take (Tryz.prog.cellsOf f0.type)) = some y0 := hf 0 f0 rfl
  have g1 : DataW.trod enc Tryz.prog W 0 (fun _ => true) true n f1.type ((cs.drop f1.offset).take (Tryz.prog.cellsOf f1.type)) = some y1 := hf 1 f1 rfl
  have g2 : DataW.trod enc Tryz.prog W 0 (fun _ => true) true n f2.type ((cs.drop f2.offset).take (Tryz.prog.cellsOf f2.type)) = some y2 := hf 2 f2 rfl
  have g3 : DataW.trod enc Tryz.prog W 0 (fun _ => true) true n f3.type ((cs.drop f3.offset).take (Tryz.prog.cellsOf f3.type)) = some y3 := hf 3 f3 rfl
  rw [t0, o0, Zke] at g0
  rw [t1, o1, Zkd] at g1
  rw [t2, o2, Zxf] at g2
  rw [t3, o3, Zke] at g3
  obtain ⟨u0, a0, b0⟩ := Zov cs 0 (by omega)
  obtain ⟨u2, a2, b2⟩ := Zov cs 33 (by omega)
  obtain ⟨u3, a3, b3⟩ := Zov cs 34 (by omega)
  rw [a0] at g0
  rw [a2] at g2
  rw [a3] at g3
  obtain ⟨k0, e0, _, _⟩ := DataW.trod_int Tryz.underlying3 g0
  obtain ⟨k3, e3, _, _⟩ := DataW.trod_int Tryz.underlying3 g3
  obtain ⟨K, lk, ek, bk⟩ := Zyc Tryz.underlying31 Zkd g1
  simp only [List.cons.injEq, and_true] at e0 e3
  subst e0 e3
  have hsz2 : (DataW.weightsEach Tryz.prog [3, 31, 32, 3] [y0.1, y1.1, y2.1, y3.1]).all (· ≤ reachBytes) = true := by
   rw [List.all_eq_true]
   intro m hm
   rw [decide_eq_true_iff]
   refine hw m ?_
   rw [hxy]
   simp only [DataW.weights, hu]
   rw [show (#[f0, f1, f2, f3] : Array Field).toList.map (·.type) = [3, 31, 32, 3] by simp [t0, t1, t2, t3]]
   exact hm
  obtain ⟨zs, r1, l1⟩ := Zrr (d := y2.1) (p := y2.2) g2 hsz2 2 rfl rfl
  refine ⟨⟨k0, K, u2, zs, k3⟩, ?_, ⟨lk, bk⟩, r1, l1⟩
  have at_ : ∀ i, (hi : i < cs.length) → cs.drop i = cs[i] :: cs.drop (i + 1) := fun i hi => List.drop_eq_getElem_cons hi
  have g : ∀ i u, cs[i]? = some u → cs.drop i = u :: cs.drop (i + 1) := fun i u hu => by
   obtain ⟨h1, h2⟩ := List.getElem?_eq_some_iff.1 hu
   rw [at_ i h1, h2]
  have d0 := g 0 _ b0
  have d2 := g 33 _ b2
  have d3 := g 34 _ b3
  have d6 : cs.drop 35 = [] := List.drop_eq_nil_of_le (by omega)
  have d1 : cs.drop 1 = K.map (Value.int .u8) ++ cs.drop 33 := by
   have := (List.take_append_drop 32 (cs.drop 1)).symm
   rw [ek, List.drop_drop] at this
   exact this
  show cs = apL k0 K u2 k3
  rw [List.drop_zero] at d0
  rw [d0, d1, d2, d3, d6]
  rfl
theorem Ybf {H : Type} {enc : TypeId × Value → H} {W : World} {base : Nat} {v : Value} {d : DataW H} {p : List MemPlace} (hv : Value.okWide Tryz.prog W .any base 47 v) (h : DataW.Trod enc Tryz.prog W 0 (fun _ => true) true 47 v d p)
  {ts : List TypeId} {ds : List (DataW H)} (hsz : (DataW.weightsEach Tryz.prog ts ds).all (· ≤ reachBytes) = true) (j : Nat) (ht : ts[j]? = some 47) (hd : ds[j]? = some d) : ∃ q : Ap, v = .agg (apC q).toArray ∧ Key q.K ∧ Reads W q.v q.bs ∧ q.bs.length ≤ 140737488355328 - 4096 := by
 obtain ⟨cs, rfl⟩ := Zsj Tryz.underlying47 hv
 obtain ⟨fuel, hf⟩ := h
 obtain ⟨l⟩ := cs
 obtain ⟨q, e, h1, h2, h3⟩ := Zlx hf (fun m hm => by
  have h1 := List.all_eq_true.1 hsz m (DataW.weights_mem_each ht hd m hm)
  simpa using h1)
 have e' : l = apC q := e
 exact ⟨q, by rw [e'], h1, h2, h3⟩
def ApAt (W : World) (v : Value) (qs : List Ap) : Prop :=
 ∃ a c, v = .slice a qs.length c ∧ (0 < qs.length → ∃ b off, a = some ⟨b, off, none⟩ ∧ ∀ i, i < qs.length → W.rangeAt b (off + i * 35) (apC (qs.getD i default))) ∧ ∀ i, i < qs.length → Key (qs.getD i default).K ∧ Reads W (qs.getD i default).v (qs.getD i default).bs ∧ (qs.getD i default).bs.length ≤ 140737488355328 - 4096
theorem Zxt {H : Type} {enc : TypeId × Value → H} {W : World} {base : Nat} {v : Value} {d : DataW H} {p : List MemPlace} (hv : Value.okWide Tryz.prog W .any base 38 v)
  (h : DataW.Trod enc Tryz.prog W 0 (fun _ => true) true 38 v d p) {ts : List TypeId} {ds : List (DataW H)} (hsz : (DataW.weightsEach Tryz.prog ts ds).all (· ≤ reachBytes) = true) (j : Nat) (ht : ts[j]? = some 38) (hd : ds[j]? = some d) :
  ∃ qs, ApAt W v qs := by
 obtain ⟨a, len, cap, rfl⟩ := okWide_slice Tryz.underlying38 hv
 obtain ⟨fuel, hf⟩ := h
 rcases Go.Deep.open_slice Tryz.underlying38 hf with ⟨hcs, hx⟩ | ⟨x, l, c, m, n, D, Pl, hcs, _, hl, hm, hmm, hx, hcell⟩
 ·simp [Value.cells] at hcs
  obtain ⟨rfl, rfl, rfl⟩ := hcs
  exact ⟨[], none, 0, rfl, fun h => by simp at h, fun i hi => by simp at hi⟩
 ·simp [Value.cells] at hcs
  obtain ⟨rfl, rfl, rfl⟩ := hcs
  simp at hmm
  simp only [Prod.mk.injEq] at hx
  have hwt : ∀ i, i < len → ∀ q ∈ (D i).weights Tryz.prog 47, q ≤ reachBytes := by
   intro i hi q hq
   have h1 := List.all_eq_true.1 hsz q (DataW.weights_mem_each ht hd q (by
    rw [hx.1]
    simp only [DataW.weights, Tryz.underlying38, List.mem_cons, List.mem_append]
    exact .inr (.inl (Zgz hq _ (List.mem_map.2 ⟨i, List.mem_range.2 hi, rfl⟩)))))
   simpa using h1
  have each : ∀ i, i < len → ∃ q : Ap, (∀ k u, (apC q)[k]? = some u → W.cell? (x.add (i * 35 + k)) = some u) ∧ Key q.K ∧ Reads W q.v q.bs ∧ q.bs.length ≤ 140737488355328 - 4096 := by
   intro i hi
   obtain ⟨cs', h1, h2⟩ := hcell i (by omega)
   rw [Zkg] at h1
   obtain ⟨_, hlen, hc⟩ := World.cells?_some h1
   obtain ⟨q, rfl, hk, hr, hl2⟩ := Zlx h2 (hwt i hi)
   refine ⟨q, fun k w hw => ?_, hk, hr, hl2⟩
   have hk2 := (List.getElem?_eq_some_iff.1 hw).1
   have hk3 : k < 35 := by rw [← hlen]; exact hk2
   have h3 := hc k hk3
   rw [Go.Deep.add_add] at h3
   rw [h3]
   exact hw
  obtain ⟨q, hq⟩ := Go.Deep.choose_lt each
  have hget : ∀ i, i < len → ((List.range len).map q).getD i default = q i := fun i hi => by simp [List.getD, hi]
  refine ⟨(List.range len).map q, some x, cap, by simp, fun hp => ?_, fun i hi => ?_⟩
  ·simp only [List.length_map, List.length_range] at hp
   obtain ⟨b, off, spot⟩ := x
   have hspot : spot = none := by
    have hlen := Zbi (q 0).k (q 0).K (q 0).v (q 0).h (hq 0 hp).2.1.1
    have := World.cell?_spot ((hq 0 hp).1 0 _ (List.getElem?_eq_getElem (by unfold apC; omega)))
    simpa [Addr.add] using this
   subst hspot
   refine ⟨b, off, rfl, fun i hi k u hu => ?_⟩
   simp only [List.length_map, List.length_range] at hi
   rw [hget i hi] at hu
   have := (hq i hi).1 k u hu
   rw [Addr.add_lit] at this
   rw [Nat.add_assoc]
   exact this
  ·simp only [List.length_map, List.length_range] at hi
   rw [hget i hi]
   exact (hq i hi).2
open Go.RowKit
theorem P7.from2 {w0 w : World} {S : List Nat} {g gs q room : Nat} {cs : List (Nat × Ce)} {fr : List Nat} (h : P7 w0 S w g gs q room cs fr) : ∃ S', P7 w S' w g gs q room cs fr ∧ New S w0 S' ∧ ∀ k ∈ S', k < w.heap.size := by
 obtain ⟨ss, ⟨vp, vf, vp2, vf2, s, d, ap, m, n1, n2⟩, R, W⟩ := h
 refine ⟨stB g gs vp vf cs ++ rsB q vp2 vf2 ss, ⟨ss, ⟨vp, vf, vp2, vf2, s, d, ap, Mod.refl _ _, fun k hk => .inl (by simp [hk]), fun k hk => .inl (by simp [hk])⟩, R, W⟩, fun k hk => ?_, fun k hk => ?_⟩
 ·rcases List.mem_append.1 hk with e | e
  ·exact n1 k e
  ·exact n2 k e
 ·rcases List.mem_append.1 hk with e | e
  ·exact s.lts k e
  ·exact d.lts k e
structure Sn (w0 w : World) (gc g gs q room : Nat) (cs : List (Nat × Ce)) (fr : List Nat) (root : Int) (va : Value) (al : List Int) (nb : Nat) : Prop where
 ex : ∃ S, P7 w S w g gs q room cs fr ∧ (∀ k ∈ S, w0.heap.size ≤ k) ∧ (∀ k ∈ S, k < w.heap.size) ∧ gc ∉ S ∧ ∀ k, va.ownBlock = some k → k ∉ S
 low : Below w0.heap.size w0 w
 blk : Blk w gc 45 #[.pointer (some ⟨g, 0, none⟩), .pointer (some ⟨q, 0, none⟩), .int .i64 root, va]
 aside : w.ownsRow w0.heap.size 3 1 va al.length (al.map (Value.int .i64))
 gcl : w0.heap.size ≤ gc
 few : al.length ≤ 9
 own : ∀ i, own cs [] i ≤ nb
structure So (w0 w : World) (gc g gs q room : Nat) (cs : List (Nat × Ce)) (fr : List Nat) (root : Int) (va : Value) (al : List Int) (nb : Nat) (S : List Nat) : Prop where
 p : P7 w S w g gs q room cs fr
 new : ∀ b, w.heap.size ≤ b → b ∉ S
 blk : Kq S w fun w' => Blk w' gc 45 #[.pointer (some ⟨g, 0, none⟩), .pointer (some ⟨q, 0, none⟩), .int .i64 root, va]
 aside : Kq S w fun w' => w'.ownsRow w0.heap.size 3 1 va al.length (al.map (Value.int .i64))
 low : ∀ P : World → Prop, (∀ w', Below w0.heap.size w0 w' → P w') → Kq S w P
 own : ∀ i, own cs [] i ≤ nb
 next : ∀ w' cs' fr' nb', P7 w S w' g gs q room cs' fr' → (∀ i, Go.Proofs.YtbkolhhgajkjjaaGreatDoor.own cs' [] i ≤ nb') → Sn w0 w' gc g gs q room cs' fr' root va al nb'
theorem Sn.so {w0 w : World} {gc g gs q room : Nat} {cs : List (Nat × Ce)} {fr : List Nat} {root : Int} {va : Value} {al : List Int} {nb : Nat} (h : Sn w0 w gc g gs q room cs fr root va al nb) : ∃ S, So w0 w gc g gs q room cs fr root va al nb S := by
 obtain ⟨S, p, h1, h2, h3, h4⟩ := h.ex
 refine ⟨S, p, fun b hb e => by have := h2 b e; omega, Kq.blk h.blk h3, fun w' m => Zfj h.aside m h4, fun P k => Kq.of_low k h.low h1, h.own, fun w' cs' fr' nb' p' ho => ?_⟩
 obtain ⟨S', p2, n, l⟩ := p'.from2
 refine ⟨⟨S', p2, n.base h1 h.low.size, l, fun e => ?_, fun k hk e => ?_⟩, h.low.trans (p'.mod.below h1 h.low.size), (Kq.blk h.blk h3) w' p'.mod, Zfj h.aside p'.mod h4, h.gcl, h.few, ho⟩
 ·rcases n gc e with e | e
  ·exact h3 e
  ·have := h.blk.lt
   omega
 ·rcases n k e with e | e
  ·exact h4 k hk e
  ·have := (h.aside.lt k hk).2
   omega
theorem Sn.grow {w0 w w' : World} {gc g gs q room : Nat} {cs : List (Nat × Ce)} {fr : List Nat} {root : Int} {va : Value} {al : List Int} {nb : Nat} (h : Sn w0 w gc g gs q room cs fr root va al nb) (hb : Below w.heap.size w w') : Sn w0 w' gc g gs q room cs fr root va al nb := by
 obtain ⟨S, o⟩ := h.so
 exact o.next _ _ _ _ (o.p.grow hb) o.own
theorem Sn.more {w0 w : World} {gc g gs q room : Nat} {cs : List (Nat × Ce)} {fr : List Nat} {root : Int} {va : Value} {al : List Int} {nb nb' : Nat} (h : Sn w0 w gc g gs q room cs fr root va al nb) (hb : nb ≤ nb') : Sn w0 w gc g gs q room cs fr root va al nb' := ⟨h.ex, h.low, h.blk, h.aside, h.gcl, h.few, fun i => Nat.le_trans (h.own i) hb⟩
theorem Zr {w : World} {gc g q : Nat} {root : Int} {va : Value} (h : Blk w gc 45 #[.pointer (some ⟨g, 0, none⟩), .pointer (some ⟨q, 0, none⟩), .int .i64 root, va]) : w.cell? ⟨gc, 0, none⟩ = some (.pointer (some ⟨g, 0, none⟩)) ∧ w.cell? ⟨gc, 1, none⟩ = some (.pointer (some ⟨q, 0, none⟩)) ∧ w.cell? ⟨gc, 2, none⟩ = some (.int .i64 root) ∧ w.cell? ⟨gc, 3, none⟩ = some va := ⟨by rw [h.cell]; rfl, by rw [h.cell]; rfl, by rw [h.cell]; rfl, by rw [h.cell]; rfl⟩
theorem So.rebase {w0 w w1 : World} {gc g gs q room : Nat} {cs : List (Nat × Ce)} {fr : List Nat} {root : Int} {va : Value} {al : List Int} {nb : Nat} {S : List Nat} (o : So w0 w gc g gs q room cs fr root va al nb S) (hb : Below w.heap.size w w1) : So w0 w1 gc g gs q room cs fr root va al nb S := ⟨o.p.rebase hb, fun b h => o.new b (Nat.le_trans hb.size h), o.blk.grow hb, o.aside.grow hb, fun P k => (o.low P k).grow hb, o.own, fun w' cs' fr' nb' p ho => o.next w' cs' fr' nb' (P7.back hb p) ho⟩
theorem P7.poke {w w' : World} {S A : List Nat} {g gs q room : Nat} {cs : List (Nat × Ce)} {fr : List Nat} (h : P7 w S w g gs q room cs fr) (m : Mod A w w') (hn : ∀ k ∈ A, k ∉ S) : P7 w' S w' g gs q room cs fr := by
 obtain ⟨ss, ⟨vp, vf, vp2, vf2, s, d, ap, _, n1, n2⟩, R, W⟩ := h
 have a1 : ∀ k ∈ stB g gs vp vf cs, k ∈ S := fun k hk => by
  rcases n1 k hk with e | e
  ·exact e
  ·have := s.lts k hk
   omega
 have a2 : ∀ k ∈ rsB q vp2 vf2 ss, k ∈ S := fun k hk => by
  rcases n2 k hk with e | e
  ·exact e
  ·have := d.lts k hk
   omega
 exact ⟨ss, ⟨vp, vf, vp2, vf2, s.mod m (fun k hk e => hn k e (a1 k hk)), d.mod m (fun k hk e => hn k e (a2 k hk)), ap, Mod.refl _ _, fun k hk => .inl (a1 k hk), fun k hk => .inl (a2 k hk)⟩, R, W⟩
theorem Zyg : (3 : Nat) ≠ 45 := by decide
theorem Sn.turn {w0 w : World} {gc g gs q room : Nat} {cs : List (Nat × Ce)} {fr : List Nat} {root : Int} {va : Value} {al : List Int} {nb : Nat} (h : Sn w0 w gc g gs q room cs fr root va al nb) (y : Int) : Sn w0 (w.setCell ⟨gc, 2, none⟩ (.int .i64 y)) gc g gs q room cs fr y va al nb := by
 obtain ⟨S, p, h1, h2, h3, h4⟩ := h.ex
 have m : Mod [gc] w (w.setCell ⟨gc, 2, none⟩ (.int .i64 y)) := Mod.setCell w gc 2 _ (by simp)
 have hne : va.ownBlock ≠ some gc := Zq (Zbe h.aside) h.blk Zyg
 refine ⟨⟨S, p.poke m (fun k hk => by rw [List.mem_singleton.1 hk]; exact h3), h1, fun k hk => Nat.lt_of_lt_of_le (h2 k hk) m.size, h3, h4⟩, Zt 2 _ h.low h.gcl, h.blk.set 2 _, Zfj h.aside m (fun k hk e => hne (by rw [hk, List.mem_singleton.1 e])), h.gcl, h.few, h.own⟩
theorem Sn.reside {w0 w w1 : World} {A : List Nat} {gc g gs q room : Nat} {cs : List (Nat × Ce)} {fr : List Nat} {root : Int} {va va' : Value} {al al' : List Int} {nb : Nat} (h : Sn w0 w gc g gs q room cs fr root va al nb) (m : Mod A w w1) (hA : ∀ k ∈ A, va.ownBlock = some k) (ho : w1.ownsRow w0.heap.size 3 1 va' al'.length (al'.map (Value.int .i64))) (hw : ∀ k, va'.ownBlock = some k → va.ownBlock = some k ∨ w.heap.size ≤ k) (hf : al'.length ≤ 9) : Sn w0 (w1.setCell ⟨gc, 3, none⟩ va') gc g gs q room cs fr root va' al' nb := by
 obtain ⟨S, p, h1, h2, h3, h4⟩ := h.ex
 have hne0 : va.ownBlock ≠ some gc := Zq (Zbe h.aside) h.blk Zyg
 have b1 : Blk w1 gc 45 #[.pointer (some ⟨g, 0, none⟩), .pointer (some ⟨q, 0, none⟩), .int .i64 root, va] := h.blk.mod m (fun e => hne0 (hA gc e))
 have low1 : Below w0.heap.size w0 w1 := h.low.trans (m.below (fun k hk => (h.aside.lt k (hA k hk)).1) h.low.size)
 have m2 : Mod [gc] w1 (w1.setCell ⟨gc, 3, none⟩ va') := Mod.setCell w1 gc 3 _ (by simp)
 have hne : va'.ownBlock ≠ some gc := Zq (Zbe ho) b1 Zyg
 refine ⟨⟨S, (p.poke m (fun k hk => h4 k (hA k hk))).poke m2 (fun k hk => by rw [List.mem_singleton.1 hk]; exact h3), h1, fun k hk => Nat.lt_of_lt_of_le (h2 k hk) (Nat.le_trans m.size m2.size), h3, fun k hk e => ?_⟩, Zt 3 _ low1 h.gcl, b1.set 3 _, Zfj ho m2 (fun k hk e => hne (by rw [hk, List.mem_singleton.1 e])), h.gcl, hf, h.own⟩
 rcases hw k hk with q | q
 ·exact h4 k q e
 ·have := h2 k e
  omega
def ScPut (w : World) (S : List Nat) (g gs q room : Nat) (cs : List (Nat × Ce)) (e : Ending) (w' : World) : Prop := ∃ y er cs' fr', e = .returned (.tuple #[.int .i64 y, .int .i64 er, .bool true]) ∧ P7 w S w' g gs q room cs' fr' ∧ ∀ i, own cs' [] i ≤ own cs [] i + 1
theorem Ybq {w0 w : World} {gc g gs q room : Nat} {cs : List (Nat × Ce)} {fr : List Nat} {root : Int} {va : Value} {al : List Int} {nb : Nat} {S : List Nat} (o : So w0 w gc g gs q room cs fr root va al nb S) (h5 : room ≤ 5000) (hnb : nb ≤ 1000) (hL : ∀ w', Below w0.heap.size w0 w' → Laid w') (x : Int) (a : Ap) (hK : Key a.K) (hr : ∀ w', Below w0.heap.size w0 w' → Reads w' a.v a.bs) (hm : a.bs.length ≤ 2000) : Calls Tryz.prog 15 #[.pointer (some ⟨gc, 0, none⟩), .int .i64 x, .agg (apC a).toArray] w (ScPut w S g gs q room cs) := by
 obtain ⟨k, K, v, bs, hh⟩ := a
 have hsh : apC ⟨k, K, v, bs, hh⟩ = apL k K v hh := rfl
 rw [hsh]
 have HPost : Hid (∀ w' cs' fr' (y er : Int), P7 w S w' g gs q room cs' fr' → (∀ i, own cs' [] i ≤ own cs [] i + 1) → ScPut w S g gs q room cs (.returned (.tuple #[.int .i64 y, .int .i64 er, .bool true])) w') := fun w' cs' fr' y er p ho => ⟨y, er, cs', fr', rfl, p, ho⟩
 have HS : Hid (∀ b, w.heap.size ≤ b → b ∉ S) := o.new
 have HR := Za (o.low _ hr)
 have HLa := Za (o.low _ hL)
 have HH := Za o.p
 have HM := Za hm
 have HMb : Hid (bs.length ≤ 140737488355328) := by have := HM.out; simp only at this; show _ ≤ _; omega
 have HKL := Za hK.1
 have HKZ : Hid ((Tryz.prog.info? 31).map (·.size) = some (B K).toList.length) := by show _ = _; rw [Array.length_toList, Zj, HKL.out]; exact Zk
 have HSC := Za o.blk
 have HPU : Hid (∀ w2 w3 v', P7 w2 S w3 g gs q room cs fr → Kq S w2 (fun w' => Reads w' v' bs) → Kq S w2 (fun w' => Reads w' v bs) → Kq S w2 Laid → Calls Tryz.prog 45 #[.pointer (some ⟨g, 0, none⟩), .int .i64 x, .agg (B K), v'] w3 fun e w' => ∃ y er cs' fr', e = .returned (.tuple #[.int .i64 y, .int .i64 er]) ∧ Two7 w2 S g gs q room 46 #[.pointer (some ⟨q, 0, none⟩), .int .i64 x, .agg (B K), v] (.returned (.tuple #[.int .i64 y, .int .i64 er])) cs' fr' w' ∧ ∀ i, own cs' [] i ≤ own cs [] i + 1) := fun w2 w3 v' p k1 k2 k3 => Yho p h5 (fun i => by have := o.own i; omega) x hK k1 k2 k3
 generalize ScPut w S g gs q room cs = P at HPost ⊢
 clear o hK hr hm hL hsh h5 hnb
 go_enter Tryz.func15, Tryz.ntmps15
 go_wp2_with (first
  | ((with_reducible refine Zo 5 ?_); refine Zc _ rfl _ _ rfl _ rfl ?_; intro w1 b3 hg3 hl3 B3 q1; have HQ1 := Za q1; have HB1 := Za (Kq.blk B3 (HS.out b3 hg3)); have z1 := Zhh B3 HKL.out; clear hg3 hl3 B3 q1)
  | (go_at_call 22; refine (Yhu HS.out HH.out HQ1.out HR.out HM.out).mono ?_; rintro e w2 ⟨bl, rfl, L2, b2⟩; have HL2 := Za L2; have HB2 := Za (HB1.out.grow b2); clear L2 b2))
 have HSC2 := Za (HSC.out.grow HL2.out.1)
 have HRO : Hid (Kq S w2 (fun w' => Reads w' (.slice (some ⟨bl, 0, none⟩) bs.length (bs.length + 5)) bs)) := HL2.out.2.2.2.2.1.imp fun w' _ r => r.reads
 have hP2 := HL2.out.2.2.2.2.2.2.grow (below_drewN (Below.refl _ _) 1)
 refine wp_region_held_drew (S := fun w' => Blk w' gc 45 #[.pointer (some ⟨g, 0, none⟩), .pointer (some ⟨q, 0, none⟩), .int .i64 root, va] ∧ Blk w' b3 47 (apL k K v hh).toArray) (by kernel_rfl) (⟨HSC2.out.now.grow (below_drewN (Below.refl _ _) 1), HB2.out.now.grow (below_drewN (Below.refl _ _) 1)⟩) (fun hHeld => ?_)
 refine tkp 0 (.pointer (some ⟨gc, 0, none⟩)) hHeld ?_
 simp only [zq]
 refine tkp 1 (.pointer (some ⟨gc, 0, none⟩)) hHeld ?_
 simp only [zq]
 refine tkp 2 (.pointer (some ⟨gc, 0, none⟩)) hHeld ?_
 simp only [zq]
 refine tkg 3 (.pointer (some ⟨g, 0, none⟩)) rfl (Or.inl ⟨by rfl, fun w hS => by (have q1 := (Zr hS.1).1; go_simp)⟩) hHeld ?_
 simp only [zq]
 refine tkp 4 (.int .i64 x) hHeld ?_
 simp only [zq]
 refine tkp 5 (.pointer (some ⟨b3, 1, none⟩)) hHeld ?_
 simp only [zq]
 refine tkg 6 (.agg (B K)) rfl (yieldsIf_load_mid rfl 31 (.tmp 24) rfl b3 1 rfl (B K).toList _ (fun w hS => Zht hS.2) Tryz.underlying31 rfl HKZ.out) hHeld ?_
 simp only [zq]
 refine tkp 7 (.slice (some ⟨bl, 0, none⟩) bs.length (bs.length + 5)) hHeld ?_
 simp only [zq]
 refine wpAnyH_ready (rs := [8]) (by kernel_rfl) (by simp) ?_
 refine AllReadyH.cons rfl (fun KQ hK => ?_) AllReadyH.nil
 go_simp
 refine (HPU.out _ _ _ hP2 HRO.out (HR.out.grow HL2.out.1) (HLa.out.grow HL2.out.1)).mono ?_
 rintro e w3 ⟨y3, e3, cs3, fr3, rfl, t3, o3⟩
 refine hK.out _ _ (⟨t3.kq HSC2.out, t3.kq HB2.out⟩) (fun hHeld => ?_)
 clear hK KQ
 refine tkp 9 (.tuple #[.int .i64 y3, .int .i64 e3]) hHeld ?_
 simp only [zq]
 refine tkp 10 (.int .i64 y3) hHeld ?_
 simp only [zq]
 refine tkp 11 (.int .i64 e3) hHeld ?_
 simp only [zq]
 refine tkp 12 (.int .i64 y3) hHeld ?_
 simp only [zq]
 refine tkp 13 (.int .i64 e3) hHeld ?_
 simp only [zq]
 refine wpAnyH_done (by kernel_rfl) ?_ _
 have HT3 := Za t3
 clear t3 hP2 hHeld
 go_wp2_with fail
 have hT3 := HT3.out.grow (below_drewN (Below.refl _ _) 1)
 refine wp_region_held_drew (S := fun w' => Blk w' gc 45 #[.pointer (some ⟨g, 0, none⟩), .pointer (some ⟨q, 0, none⟩), .int .i64 root, va] ∧ Blk w' b3 47 (apL k K v hh).toArray) (by kernel_rfl) (⟨hT3.kq HSC2.out, hT3.kq HB2.out⟩) (fun hHeld => ?_)
 refine tkp 0 (.pointer (some ⟨gc, 0, none⟩)) hHeld ?_
 simp only [zq]
 refine tkp 1 (.pointer (some ⟨gc, 0, none⟩)) hHeld ?_
 simp only [zq]
 refine tkp 2 (.pointer (some ⟨gc, 1, none⟩)) hHeld ?_
 simp only [zq]
 refine tkg 3 (.pointer (some ⟨q, 0, none⟩)) rfl (Or.inl ⟨by rfl, fun w hS => by (have q1 := (Zr hS.1).2.1; go_simp)⟩) hHeld ?_
 simp only [zq]
 refine tkp 4 (.int .i64 x) hHeld ?_
 simp only [zq]
 refine tkp 5 (.pointer (some ⟨b3, 1, none⟩)) hHeld ?_
 simp only [zq]
 refine tkg 6 (.agg (B K)) rfl (yieldsIf_load_mid rfl 31 (.tmp 36) rfl b3 1 rfl (B K).toList _ (fun w hS => Zht hS.2) Tryz.underlying31 rfl HKZ.out) hHeld ?_
 simp only [zq]
 refine tkp 7 (.pointer (some ⟨b3, 33, none⟩)) hHeld ?_
 simp only [zq]
 refine tkg 8 (v) rfl (Or.inl ⟨by rfl, fun w hS => by (have q1 := Zhh hS.2 HKL.out; go_simp)⟩) hHeld ?_
 simp only [zq]
 refine wpAnyH_ready (rs := [9]) (by kernel_rfl) (by simp) ?_
 refine AllReadyH.cons rfl (fun KQ hK => ?_) AllReadyH.nil
 go_simp
 refine hT3.go.mono ?_
 rintro e w4 ⟨rfl, t4⟩
 refine hK.out _ _ (⟨t4.kq HSC2.out, t4.kq HB2.out⟩) (fun hHeld => ?_)
 clear hK KQ
 refine tkp 10 (.tuple #[.int .i64 y3, .int .i64 e3]) hHeld ?_
 simp only [zq]
 refine tkp 11 (.int .i64 y3) hHeld ?_
 simp only [zq]
 refine tkp 12 (.int .i64 e3) hHeld ?_
 simp only [zq]
 refine tkp 13 (.int .i64 y3) hHeld ?_
 simp only [zq]
 refine tkp 14 (.int .i64 e3) hHeld ?_
 simp only [zq]
 refine wpAnyH_done (by kernel_rfl) ?_ _
 have HT4 := Za t4
 have HO4 := Za o3
 clear t4 hHeld hT3
 have z4 := Zhh (HT4.out.kq HB2.out) HKL.out
 go_wp2_with (first
  | (go_at_call 25; refine (Zvv _ v bs _ (HT4.out.kq HL2.out.2.2.2.2.2.1) (HT4.out.kq (HR.out.grow HL2.out.1)) HMb.out).mono ?_; rintro e w5 ⟨rfl, b5⟩; have HT5 := Za (HT4.out.grow b5); clear b5)
  | (go_at_call 26; refine (Zld 0 _ bs _ _ (HT5.out.kq HL2.out.2.2.2.2.1)).mono ?_; rintro e w6 ⟨rfl, -, g6, -⟩; have HT6 := Za (HT5.out.over HL2.out.1 HL2.out.2.1 HL2.out.2.2.1 HL2.out.2.2.2.1 g6); clear g6))
 go_ret3
 exact HPost.out _ _ _ _ _ HT6.out HO4.out
theorem Zof {w0 w : World} {gc g gs q room : Nat} {cs : List (Nat × Ce)} {fr : List Nat} {root : Int} {va : Value} {al : List Int} {nb : Nat} (h : Sn w0 w gc g gs q room cs fr root va al nb) (h5 : room ≤ 5000) (hnb : nb ≤ 1000) (x : Int) (a : Ap) (hK : Key a.K) (hr : ∀ w', Below w0.heap.size w0 w' → Reads w' a.v a.bs) : Calls Tryz.prog 14 #[.pointer (some ⟨gc, 0, none⟩), .int .i64 x, .agg (apC a).toArray] w fun e w' => e = .returned (.bool true) ∧ Below w.heap.size w w' := by
 obtain ⟨S, o⟩ := h.so
 obtain ⟨k, K, v, bs, hh⟩ := a
 have hsh : apC ⟨k, K, v, bs, hh⟩ = apL k K v hh := rfl
 rw [hsh]
 obtain ⟨y, er, hc⟩ := Ygr o.p h5 (fun i => by have := o.own i; omega) x hK (o.low _ hr).now
 have HC1 : Hid (∀ w', Below w.heap.size w w' → Calls Tryz.prog 43 #[.pointer (some ⟨g, 0, none⟩), .int .i64 x, .agg (B K), v] w' fun e w'' => e = .returned (.tuple #[.int .i64 y, .int .i64 er]) ∧ Below w'.heap.size w' w'') := fun w' hb => (hc w' hb).1
 have HC2 : Hid (∀ w', Below w.heap.size w w' → Calls Tryz.prog 44 #[.pointer (some ⟨q, 0, none⟩), .int .i64 x, .agg (B K), v] w' fun e w'' => e = .returned (.tuple #[.int .i64 y, .int .i64 er]) ∧ Below w'.heap.size w' w'') := fun w' hb => (hc w' hb).2
 have HKL := Za hK.1
 have HKZ : Hid ((Tryz.prog.info? 31).map (·.size) = some (B K).toList.length) := by show _ = _; rw [Array.length_toList, Zj, HKL.out]; exact Zk
 have HSC := Za h.blk
 clear o h hK hr hsh hc h5 hnb
 go_enter Tryz.func14, Tryz.ntmps14
 go_wp2_with (first
  | ((with_reducible refine Zo 5 ?_); refine Zc _ rfl _ _ rfl _ rfl ?_; intro w1 b3 hg3 hl3 B3 q1; have HQ1 := Za q1; have HB1 := Za B3; have HS1 := Za (HSC.out.grow q1); clear hg3 hl3 B3 q1))
 refine wp_region_held_drew (S := fun w' => Below w1.heap.size w1 w') (by kernel_rfl) (below_drewN (Below.refl _ _) 1) (fun hHeld => ?_)
 refine tkp 0 (.pointer (some ⟨gc, 0, none⟩)) hHeld ?_
 simp only [zq]
 refine tkp 1 (.pointer (some ⟨gc, 0, none⟩)) hHeld ?_
 simp only [zq]
 refine tkp 2 (.pointer (some ⟨gc, 0, none⟩)) hHeld ?_
 simp only [zq]
 refine tkg 3 (.pointer (some ⟨g, 0, none⟩)) rfl (Or.inl ⟨by rfl, fun w hS => by (have q1 := (Zr (HS1.out.grow hS)).1; go_simp)⟩) hHeld ?_
 simp only [zq]
 refine tkp 4 (.int .i64 x) hHeld ?_
 simp only [zq]
 refine tkp 5 (.pointer (some ⟨b3, 1, none⟩)) hHeld ?_
 simp only [zq]
 refine tkg 6 (.agg (B K)) rfl (yieldsIf_load_mid rfl 31 (.tmp 17) rfl b3 1 rfl (B K).toList _ (fun w hS => Zht (HB1.out.grow hS)) Tryz.underlying31 rfl HKZ.out) hHeld ?_
 simp only [zq]
 refine tkp 7 (.pointer (some ⟨b3, 33, none⟩)) hHeld ?_
 simp only [zq]
 refine tkg 8 (v) rfl (Or.inl ⟨by rfl, fun w hS => by (have q1 := Zhh (HB1.out.grow hS) HKL.out; go_simp)⟩) hHeld ?_
 simp only [zq]
 refine wpAnyH_ready (rs := [9]) (by kernel_rfl) (by simp) ?_
 refine AllReadyH.cons rfl (fun KQ hK => ?_) AllReadyH.nil
 go_simp
 refine (HC1.out _ (Zb HQ1.out hHeld)).mono ?_
 rintro e z1 ⟨rfl, a1⟩
 refine hK.out _ _ (Zb hHeld a1) (fun hHeld => ?_)
 clear hK KQ
 refine tkp 10 (.tuple #[.int .i64 y, .int .i64 er]) hHeld ?_
 simp only [zq]
 refine tkp 11 (.int .i64 y) hHeld ?_
 simp only [zq]
 refine tkp 12 (.int .i64 er) hHeld ?_
 simp only [zq]
 refine tkp 13 (.int .i64 y) hHeld ?_
 simp only [zq]
 refine tkp 14 (.int .i64 er) hHeld ?_
 simp only [zq]
 refine wpAnyH_done (by kernel_rfl) ?_ _
 have HH := Za hHeld
 clear hHeld
 go_wp2_with fail
 refine wp_region_held_drew (S := fun w' => Below w1.heap.size w1 w') (by kernel_rfl) (Zb HH.out (below_drewN (Below.refl _ _) 1)) (fun hHeld => ?_)
 refine tkp 0 (.pointer (some ⟨gc, 0, none⟩)) hHeld ?_
 simp only [zq]
 refine tkp 1 (.pointer (some ⟨gc, 0, none⟩)) hHeld ?_
 simp only [zq]
 refine tkp 2 (.pointer (some ⟨gc, 1, none⟩)) hHeld ?_
 simp only [zq]
 refine tkg 3 (.pointer (some ⟨q, 0, none⟩)) rfl (Or.inl ⟨by rfl, fun w hS => by (have q1 := (Zr (HS1.out.grow hS)).2.1; go_simp)⟩) hHeld ?_
 simp only [zq]
 refine tkp 4 (.int .i64 x) hHeld ?_
 simp only [zq]
 refine tkp 5 (.pointer (some ⟨b3, 1, none⟩)) hHeld ?_
 simp only [zq]
 refine tkg 6 (.agg (B K)) rfl (yieldsIf_load_mid rfl 31 (.tmp 30) rfl b3 1 rfl (B K).toList _ (fun w hS => Zht (HB1.out.grow hS)) Tryz.underlying31 rfl HKZ.out) hHeld ?_
 simp only [zq]
 refine tkp 7 (.pointer (some ⟨b3, 33, none⟩)) hHeld ?_
 simp only [zq]
 refine tkg 8 (v) rfl (Or.inl ⟨by rfl, fun w hS => by (have q1 := Zhh (HB1.out.grow hS) HKL.out; go_simp)⟩) hHeld ?_
 simp only [zq]
 refine wpAnyH_ready (rs := [9]) (by kernel_rfl) (by simp) ?_
 refine AllReadyH.cons rfl (fun KQ hK => ?_) AllReadyH.nil
 go_simp
 refine (HC2.out _ (Zb HQ1.out hHeld)).mono ?_
 rintro e z2 ⟨rfl, a1⟩
 refine hK.out _ _ (Zb hHeld a1) (fun hHeld => ?_)
 clear hK KQ
 refine tkp 10 (.tuple #[.int .i64 y, .int .i64 er]) hHeld ?_
 simp only [zq]
 refine tkp 11 (.int .i64 y) hHeld ?_
 simp only [zq]
 refine tkp 12 (.int .i64 er) hHeld ?_
 simp only [zq]
 refine tkp 13 (.int .i64 y) hHeld ?_
 simp only [zq]
 refine tkp 14 (.int .i64 er) hHeld ?_
 simp only [zq]
 refine wpAnyH_done (by kernel_rfl) ?_ _
 have HH2 := Za hHeld
 clear hHeld
 go_wp2_with fail
 go_ret
 exact ⟨rfl, Zb HQ1.out HH2.out⟩
theorem Zcc : (Tryz.prog.info? 47).map (·.size) = some 35 := by kernel_rfl
theorem Zyw {w0 w : World} {gc g gs q room : Nat} {cs : List (Nat × Ce)} {fr : List Nat} {root : Int} {va : Value} {al : List Int} {nb : Nat} {P : Ending → World → Prop} (h : Sn w0 w gc g gs q room cs fr root va al nb) (h5 : room ≤ 5000) (hnb : nb ≤ 1000) (hL : ∀ w', Below w0.heap.size w0 w' → Laid w') {K : List Int} {v : Value} {bs : List Int} {hh : Int} (hK : Key K) (hr : ∀ w', Below w0.heap.size w0 w' → Reads w' v bs) (hm : bs.length ≤ 2000) (HPost : Hid (∀ w' cs' fr' root' va' al', Sn w0 w' gc g gs q room cs' fr' root' va' al' (nb + 1) → P (.returned (.bool true)) w')) : Calls Tryz.prog 42 #[.pointer (some ⟨gc, 0, none⟩), .agg (apL 0 K v hh).toArray] w P := by
 have u0 := (⟨h5, hnb, hL, hK, hr, hm⟩ : _ ∧ _ ∧ _ ∧ _ ∧ _ ∧ _)
 clear u0
 have HKL := Za hK.1
 have HAZ : Hid ((Tryz.prog.info? 47).map (·.size) = some (apL 0 K v hh).toArray.toList.length) := by show _ = _; rw [List.toList_toArray, Zbi _ _ _ _ HKL.out]; exact Zcc
 obtain ⟨S, o⟩ := h.so
 have HO := Za o
 have HPU : Hid (∀ w', Below w.heap.size w w' → Calls Tryz.prog 15 #[.pointer (some ⟨gc, 0, none⟩), .int .i64 root, .agg (apL 0 K v hh).toArray] w' (ScPut w' S g gs q room cs)) := fun w' hb => Ybq (HO.out.rebase hb) h5 hnb hL root ⟨0, K, v, bs, hh⟩ hK hr hm
 clear o h hK hr hm hL h5 hnb
 go_enter Tryz.func42, Tryz.ntmps42
 go_wp2_with (first
  | ((with_reducible refine Zo 3 ?_); refine Zc _ rfl _ _ rfl _ rfl ?_; intro w1 b3 hg3 hl3 B3 q1; have HQ1 := Za q1; have HB1 := Za (Kq.blk B3 (HO.out.new b3 hg3)); have HO1 := Za (HO.out.rebase q1); have zk := Zfd B3; have zh := Zcn B3 HKL.out; obtain ⟨y0, y1, y2, y3⟩ := Zr HO1.out.blk.now; clear hg3 hl3 B3 q1))
 have HO2 := Za (HO1.out.rebase (below_drewN (Below.refl w1.heap.size w1) 1))
 have HB2 := Za (HB1.out.grow (below_drewN (Below.refl w1.heap.size w1) 1))
 refine wp_region_held_drew (S := fun w' => Blk w' gc 45 #[.pointer (some ⟨g, 0, none⟩), .pointer (some ⟨q, 0, none⟩), .int .i64 root, va] ∧ Blk w' b3 47 (apL 0 K v hh).toArray) (by kernel_rfl) (⟨HO2.out.blk.now, HB2.out.now⟩) (fun hHeld => ?_)
 refine tkp 0 (.pointer (some ⟨gc, 0, none⟩)) hHeld ?_
 simp only [zq]
 refine tkp 1 (.pointer (some ⟨gc, 0, none⟩)) hHeld ?_
 simp only [zq]
 refine tkp 2 (.pointer (some ⟨gc, 0, none⟩)) hHeld ?_
 simp only [zq]
 refine tkp 3 (.pointer (some ⟨gc, 2, none⟩)) hHeld ?_
 simp only [zq]
 refine tkg 4 (.int .i64 root) rfl (Or.inl ⟨by rfl, fun w hS => by (have q1 := (Zr hS.1).2.2.1; go_simp)⟩) hHeld ?_
 simp only [zq]
 refine tkg 5 (.agg (apL 0 K v hh).toArray) rfl (yieldsIf_load_mid rfl 47 (.tmp 3) rfl b3 0 rfl (apL 0 K v hh).toArray.toList _ (fun w hS => (hS.2).range) Tryz.underlying47 rfl HAZ.out) hHeld ?_
 simp only [zq]
 refine wpAnyH_ready (rs := [6]) (by kernel_rfl) (by simp) ?_
 refine AllReadyH.cons rfl (fun KQ hK => ?_) AllReadyH.nil
 go_simp
 refine (HPU.out _ (Zb HQ1.out (below_drewN (Below.refl w1.heap.size w1) 1))).mono ?_
 rintro e w3 ⟨y3', e3, cs3, fr3, rfl, p3, o3⟩
 refine hK.out _ _ (⟨HO2.out.blk _ p3.mod, HB2.out _ p3.mod⟩) (fun hHeld => ?_)
 clear hK KQ
 refine tkp 7 (.tuple #[.int .i64 y3', .int .i64 e3, .bool true]) hHeld ?_
 simp only [zq]
 refine tkp 8 (.int .i64 y3') hHeld ?_
 simp only [zq]
 refine tkp 9 (.int .i64 e3) hHeld ?_
 simp only [zq]
 refine tkp 10 (.bool true) hHeld ?_
 simp only [zq]
 refine tkp 11 (.int .i64 y3') hHeld ?_
 simp only [zq]
 refine tkp 12 (.int .i64 e3) hHeld ?_
 simp only [zq]
 refine tkp 13 (.bool true) hHeld ?_
 simp only [zq]
 refine wpAnyH_done (by kernel_rfl) ?_ _
 have HN3 := Za (HO2.out.next _ _ _ (nb + 1) p3 (fun i => by have := o3 i; have := HO.out.own i; omega))
 clear hHeld p3 o3
 by_cases e0 : e3 = 0
 ·subst e0
  obtain ⟨x0, x1, x2, x3⟩ := Zr HN3.out.blk
  have xf := HN3.out.blk.frozen 2
  go_wp2
  exact HPost.out _ _ _ _ _ _ (HN3.out.turn y3')
 ·have e1 : (e3 == 0) = false := by simp [e0]
  go_wp2
  exact HPost.out _ _ _ _ _ _ HN3.out
theorem Zry {w0 w : World} {gc g gs q room : Nat} {cs : List (Nat × Ce)} {fr : List Nat} {root : Int} {va : Value} {al : List Int} {nb : Nat} {P : Ending → World → Prop} (h : Sn w0 w gc g gs q room cs fr root va al nb) (h5 : room ≤ 5000) (hnb : nb ≤ 1000) (hL : ∀ w', Below w0.heap.size w0 w' → Laid w') {K : List Int} {v : Value} {bs : List Int} {hh : Int} (hK : Key K) (hr : ∀ w', Below w0.heap.size w0 w' → Reads w' v bs) (hm : bs.length ≤ 2000) (HPost : Hid (∀ w' cs' fr' root' va' al', Sn w0 w' gc g gs q room cs' fr' root' va' al' (nb + 1) → P (.returned (.bool true)) w')) : Calls Tryz.prog 42 #[.pointer (some ⟨gc, 0, none⟩), .agg (apL 4 K v hh).toArray] w P := by
 have u0 := (⟨h5, hnb, hL, hK, hr, hm⟩ : _ ∧ _ ∧ _ ∧ _ ∧ _ ∧ _)
 clear u0
 have HKL := Za hK.1
 have HAZ : Hid ((Tryz.prog.info? 47).map (·.size) = some (apL 4 K v hh).toArray.toList.length) := by show _ = _; rw [List.toList_toArray, Zbi _ _ _ _ HKL.out]; exact Zcc
 obtain ⟨S, o⟩ := h.so
 have HO := Za o
 have HCO : Hid (∀ w', Below w.heap.size w w' → Calls Tryz.prog 14 #[.pointer (some ⟨gc, 0, none⟩), .int .i64 root, .agg (apL 4 K v hh).toArray] w' fun e w'' => e = .returned (.bool true) ∧ Below w'.heap.size w' w'') := fun w' hb => Zof (h.grow hb) h5 hnb root ⟨4, K, v, bs, hh⟩ hK hr
 have HN := Za (h.more (Nat.le_succ nb))
 clear o h hK hr hm hL h5 hnb
 go_enter Tryz.func42, Tryz.ntmps42
 go_wp2_with (first
  | ((with_reducible refine Zo 3 ?_); refine Zc _ rfl _ _ rfl _ rfl ?_; intro w1 b3 hg3 hl3 B3 q1; have HQ1 := Za q1; have HB1 := Za (Kq.blk B3 (HO.out.new b3 hg3)); have HO1 := Za (HO.out.rebase q1); have zk := Zfd B3; have zh := Zcn B3 HKL.out; obtain ⟨y0, y1, y2, y3⟩ := Zr HO1.out.blk.now; clear hg3 hl3 B3 q1))
 refine wp_region_held_drew (S := fun w' => Below w1.heap.size w1 w') (by kernel_rfl) (below_drewN (Below.refl _ _) 1) (fun hHeld => ?_)
 refine tkp 0 (.pointer (some ⟨gc, 0, none⟩)) hHeld ?_
 simp only [zq]
 refine tkp 1 (.pointer (some ⟨gc, 0, none⟩)) hHeld ?_
 simp only [zq]
 refine tkp 2 (.pointer (some ⟨gc, 0, none⟩)) hHeld ?_
 simp only [zq]
 refine tkp 3 (.pointer (some ⟨gc, 2, none⟩)) hHeld ?_
 simp only [zq]
 refine tkg 4 (.int .i64 root) rfl (Or.inl ⟨by rfl, fun w hS => by (have q1 := (Zr (HO1.out.blk.now.grow hS)).2.2.1; go_simp)⟩) hHeld ?_
 simp only [zq]
 refine tkg 5 (.agg (apL 4 K v hh).toArray) rfl (yieldsIf_load_mid rfl 47 (.tmp 3) rfl b3 0 rfl (apL 4 K v hh).toArray.toList _ (fun w hS => (HB1.out.now.grow hS).range) Tryz.underlying47 rfl HAZ.out) hHeld ?_
 simp only [zq]
 refine wpAnyH_ready (rs := [6]) (by kernel_rfl) (by simp) ?_
 refine AllReadyH.cons rfl (fun KQ hK => ?_) AllReadyH.nil
 go_simp
 refine (HCO.out _ (Zb HQ1.out hHeld)).mono ?_
 rintro e w3 ⟨rfl, b3'⟩
 refine hK.out _ _ (Zb hHeld b3') (fun hHeld => ?_)
 clear hK KQ
 refine tkp 7 (.bool true) hHeld ?_
 simp only [zq]
 refine wpAnyH_done (by kernel_rfl) ?_ _
 have HN3 := Za (HN.out.grow (Zb HQ1.out hHeld))
 clear hHeld b3'
 go_wp2
 exact HPost.out _ _ _ _ _ _ HN3.out
theorem Zuj {w0 w : World} {gc g gs q room : Nat} {cs : List (Nat × Ce)} {fr : List Nat} {root : Int} {va : Value} {al : List Int} {nb : Nat} {P : Ending → World → Prop} (h : Sn w0 w gc g gs q room cs fr root va al nb) (h5 : room ≤ 5000) (hnb : nb ≤ 1000) (hL : ∀ w', Below w0.heap.size w0 w' → Laid w') {K : List Int} {v : Value} {bs : List Int} {hh : Int} (hK : Key K) (hr : ∀ w', Below w0.heap.size w0 w' → Reads w' v bs) (hm : bs.length ≤ 2000) (HPost : Hid (∀ w' cs' fr' root' va' al', Sn w0 w' gc g gs q room cs' fr' root' va' al' (nb + 1) → P (.returned (.bool true)) w')) : Calls Tryz.prog 42 #[.pointer (some ⟨gc, 0, none⟩), .agg (apL 5 K v hh).toArray] w P := by
 have u0 := (⟨h5, hnb, hL, hK, hr, hm⟩ : _ ∧ _ ∧ _ ∧ _ ∧ _ ∧ _)
 clear u0
 have HKL := Za hK.1
 have HAZ : Hid ((Tryz.prog.info? 47).map (·.size) = some (apL 5 K v hh).toArray.toList.length) := by show _ = _; rw [List.toList_toArray, Zbi _ _ _ _ HKL.out]; exact Zcc
 obtain ⟨S, o⟩ := h.so
 have HO := Za o
 obtain ⟨fb, hfb⟩ := Ygo o.p h5 hh
 obtain ⟨ae, hae⟩ := Ygj o.p hh
 have HF1 : Hid (∀ w', Below w.heap.size w w' → Calls Tryz.prog 56 #[.pointer (some ⟨g, 0, none⟩), .int .i64 hh] w' fun e w'' => e = .returned (.bool fb) ∧ Below w'.heap.size w' w'') := fun w' hb => (hfb w' hb).1
 have HF2 : Hid (∀ w', Below w.heap.size w w' → Calls Tryz.prog 61 #[.pointer (some ⟨q, 0, none⟩), .int .i64 hh] w' fun e w'' => e = .returned (.bool fb) ∧ Below w'.heap.size w' w'') := fun w' hb => (hfb w' hb).2
 have HA1 : Hid (∀ w', Below w.heap.size w w' → Calls Tryz.prog 48 #[.pointer (some ⟨g, 0, none⟩), .int .i64 hh] w' fun e w'' => e = .returned (.int .i64 ae) ∧ Below w'.heap.size w' w'') := fun w' hb => (hae w' hb).1
 have HA2 : Hid (∀ w', Below w.heap.size w w' → Calls Tryz.prog 51 #[.pointer (some ⟨q, 0, none⟩), .int .i64 hh] w' fun e w'' => e = .returned (.int .i64 ae) ∧ Below w'.heap.size w' w'') := fun w' hb => (hae w' hb).2
 have HN := Za (h.more (Nat.le_succ nb))
 clear o h hK hr hm hL h5 hnb hfb hae
 cases fb <;> (
  go_enter Tryz.func42, Tryz.ntmps42
  go_wp2_with (first
   | ((with_reducible refine Zo 3 ?_); refine Zc _ rfl _ _ rfl _ rfl ?_; intro w1 b3 hg3 hl3 B3 q1; have HQ1 := Za q1; have HB1 := Za (Kq.blk B3 (HO.out.new b3 hg3)); have HO1 := Za (HO.out.rebase q1); have zk := Zfd B3; have zh := Zcn B3 HKL.out; obtain ⟨y0, y1, y2, y3⟩ := Zr HO1.out.blk.now; clear hg3 hl3 B3 q1))
  refine wp_region_held_drew (S := fun w' => Below w1.heap.size w1 w') (by kernel_rfl) (below_drewN (Below.refl _ _) 1) (fun hHeld => ?_)
  refine tkp 0 (.pointer (some ⟨gc, 0, none⟩)) hHeld ?_
  simp only [zq]
  refine tkp 1 (.pointer (some ⟨gc, 0, none⟩)) hHeld ?_
  simp only [zq]
  refine tkp 2 (.pointer (some ⟨gc, 0, none⟩)) hHeld ?_
  simp only [zq]
  refine tkg 3 (.pointer (some ⟨g, 0, none⟩)) rfl (Or.inl ⟨by rfl, fun w hS => by (have q1 := (Zr (HO1.out.blk.now.grow hS)).1; go_simp)⟩) hHeld ?_
  simp only [zq]
  refine tkp 4 (.pointer (some ⟨b3, 34, none⟩)) hHeld ?_
  simp only [zq]
  refine tkg 5 (.int .i64 hh) rfl (Or.inl ⟨by rfl, fun w hS => by (have q1 := Zcn (HB1.out.now.grow hS) HKL.out; go_simp)⟩) hHeld ?_
  simp only [zq]
  refine tkp 7 (.pointer (some ⟨gc, 0, none⟩)) hHeld ?_
  simp only [zq]
  refine tkp 8 (.pointer (some ⟨gc, 0, none⟩)) hHeld ?_
  simp only [zq]
  refine tkp 9 (.pointer (some ⟨gc, 1, none⟩)) hHeld ?_
  simp only [zq]
  refine tkg 10 (.pointer (some ⟨q, 0, none⟩)) rfl (Or.inl ⟨by rfl, fun w hS => by (have q1 := (Zr (HO1.out.blk.now.grow hS)).2.1; go_simp)⟩) hHeld ?_
  simp only [zq]
  refine tkp 11 (.pointer (some ⟨b3, 34, none⟩)) hHeld ?_
  simp only [zq]
  refine tkg 12 (.int .i64 hh) rfl (Or.inl ⟨by rfl, fun w hS => by (have q1 := Zcn (HB1.out.now.grow hS) HKL.out; go_simp)⟩) hHeld ?_
  simp only [zq]
  refine wpAnyH_ready (rs := [6]) (by kernel_rfl) (by simp) ?_
  refine AllReadyH.cons rfl (fun KQ hK => ?_) AllReadyH.nil
  go_simp
  refine (HF1.out _ (Zb HQ1.out hHeld)).mono ?_
  rintro e z1 ⟨rfl, a1⟩
  refine hK.out _ _ (Zb hHeld a1) (fun hHeld => ?_)
  clear hK KQ
  refine wpAnyH_ready (rs := [13]) (by kernel_rfl) (by simp) ?_
  refine AllReadyH.cons rfl (fun KQ hK => ?_) AllReadyH.nil
  go_simp
  refine (HF2.out _ (Zb HQ1.out hHeld)).mono ?_
  rintro e z2 ⟨rfl, a2⟩
  refine hK.out _ _ (Zb hHeld a2) (fun hHeld => ?_)
  clear hK KQ
  refine tkp 14 (.bool true) hHeld ?_
  simp only [zq]
  refine tkp 15 (.bool true) hHeld ?_
  simp only [zq]
  refine tkp 16 (.pointer (some ⟨gc, 0, none⟩)) hHeld ?_
  simp only [zq]
  refine tkp 17 (.pointer (some ⟨gc, 0, none⟩)) hHeld ?_
  simp only [zq]
  refine tkp 18 (.pointer (some ⟨gc, 0, none⟩)) hHeld ?_
  simp only [zq]
  refine tkg 19 (.pointer (some ⟨g, 0, none⟩)) rfl (Or.inl ⟨by rfl, fun w hS => by (have q1 := (Zr (HO1.out.blk.now.grow hS)).1; go_simp)⟩) hHeld ?_
  simp only [zq]
  refine tkp 20 (.pointer (some ⟨b3, 34, none⟩)) hHeld ?_
  simp only [zq]
  refine tkg 21 (.int .i64 hh) rfl (Or.inl ⟨by rfl, fun w hS => by (have q1 := Zcn (HB1.out.now.grow hS) HKL.out; go_simp)⟩) hHeld ?_
  simp only [zq]
  refine tkp 23 (.pointer (some ⟨gc, 0, none⟩)) hHeld ?_
  simp only [zq]
  refine tkp 24 (.pointer (some ⟨gc, 0, none⟩)) hHeld ?_
  simp only [zq]
  refine tkp 25 (.pointer (some ⟨gc, 1, none⟩)) hHeld ?_
  simp only [zq]
  refine tkg 26 (.pointer (some ⟨q, 0, none⟩)) rfl (Or.inl ⟨by rfl, fun w hS => by (have q1 := (Zr (HO1.out.blk.now.grow hS)).2.1; go_simp)⟩) hHeld ?_
  simp only [zq]
  refine tkp 27 (.pointer (some ⟨b3, 34, none⟩)) hHeld ?_
  simp only [zq]
  refine tkg 28 (.int .i64 hh) rfl (Or.inl ⟨by rfl, fun w hS => by (have q1 := Zcn (HB1.out.now.grow hS) HKL.out; go_simp)⟩) hHeld ?_
  simp only [zq]
  refine wpAnyH_ready (rs := [22]) (by kernel_rfl) (by simp) ?_
  refine AllReadyH.cons rfl (fun KQ hK => ?_) AllReadyH.nil
  go_simp
  refine (HA1.out _ (Zb HQ1.out hHeld)).mono ?_
  rintro e z3 ⟨rfl, a3⟩
  refine hK.out _ _ (Zb hHeld a3) (fun hHeld => ?_)
  clear hK KQ
  refine wpAnyH_ready (rs := [29]) (by kernel_rfl) (by simp) ?_
  refine AllReadyH.cons rfl (fun KQ hK => ?_) AllReadyH.nil
  go_simp
  refine (HA2.out _ (Zb HQ1.out hHeld)).mono ?_
  rintro e z4 ⟨rfl, a4⟩
  refine hK.out _ _ (Zb hHeld a4) (fun hHeld => ?_)
  clear hK KQ
  refine tkp 30 (.bool true) hHeld ?_
  simp only [zq]
  refine tkp 31 (.bool true) hHeld ?_
  simp only [zq]
  refine tkp 32 (.bool true) hHeld ?_
  simp only [zq]
  refine wpAnyH_done (by kernel_rfl) ?_ _
  have HN3 := Za (HN.out.grow (Zb HQ1.out hHeld))
  clear hHeld a1 a2 a3 a4
  go_wp2
  exact HPost.out _ _ _ _ _ _ HN3.out)
theorem Zrx {w0 w : World} {gc g gs q room : Nat} {cs : List (Nat × Ce)} {fr : List Nat} {root : Int} {va : Value} {al : List Int} {nb : Nat} {P : Ending → World → Prop} (h : Sn w0 w gc g gs q room cs fr root va al nb) (h5 : room ≤ 5000) (hnb : nb ≤ 1000) (hL : ∀ w', Below w0.heap.size w0 w' → Laid w') {K : List Int} {v : Value} {bs : List Int} {hh : Int} (hK : Key K) (hr : ∀ w', Below w0.heap.size w0 w' → Reads w' v bs) (hm : bs.length ≤ 2000) (HPost : Hid (∀ w' cs' fr' root' va' al', Sn w0 w' gc g gs q room cs' fr' root' va' al' (nb + 1) → P (.returned (.bool true)) w')) : Calls Tryz.prog 42 #[.pointer (some ⟨gc, 0, none⟩), .agg (apL 6 K v hh).toArray] w P := by
 have u0 := (⟨h5, hnb, hL, hK, hr, hm⟩ : _ ∧ _ ∧ _ ∧ _ ∧ _ ∧ _)
 clear u0
 have HKL := Za hK.1
 have HAZ : Hid ((Tryz.prog.info? 47).map (·.size) = some (apL 6 K v hh).toArray.toList.length) := by show _ = _; rw [List.toList_toArray, Zbi _ _ _ _ HKL.out]; exact Zcc
 obtain ⟨S, o⟩ := h.so
 have HO := Za o
 have HCO : Hid (∀ w', Below w.heap.size w w' → Calls Tryz.prog 14 #[.pointer (some ⟨gc, 0, none⟩), .int .i64 hh, .agg (apL 6 K v hh).toArray] w' fun e w'' => e = .returned (.bool true) ∧ Below w'.heap.size w' w'') := fun w' hb => Zof (h.grow hb) h5 hnb hh ⟨6, K, v, bs, hh⟩ hK hr
 have HN := Za (h.more (Nat.le_succ nb))
 clear o h hK hr hm hL h5 hnb
 go_enter Tryz.func42, Tryz.ntmps42
 go_wp2_with (first
  | ((with_reducible refine Zo 3 ?_); refine Zc _ rfl _ _ rfl _ rfl ?_; intro w1 b3 hg3 hl3 B3 q1; have HQ1 := Za q1; have HB1 := Za (Kq.blk B3 (HO.out.new b3 hg3)); have HO1 := Za (HO.out.rebase q1); have zk := Zfd B3; have zh := Zcn B3 HKL.out; obtain ⟨y0, y1, y2, y3⟩ := Zr HO1.out.blk.now; clear hg3 hl3 B3 q1)
  | ((with_reducible refine Zl 199 3 ?_); refine wpList_load_mid rfl _ _ rfl b3 0 rfl (apL 6 K v hh).toArray.toList _ HB1.out.now.range Tryz.underlying47 rfl HAZ.out ?_)
  | (go_at_call 14; refine (HCO.out _ HQ1.out).mono ?_; rintro e w3 ⟨rfl, b3'⟩; have HN3 := Za (HN.out.grow (Zb HQ1.out b3')); clear b3'))
 exact HPost.out _ _ _ _ _ _ HN3.out
theorem Zuk {w0 w : World} {gc g gs q room : Nat} {cs : List (Nat × Ce)} {fr : List Nat} {root : Int} {va : Value} {al : List Int} {nb : Nat} {P : Ending → World → Prop} (h : Sn w0 w gc g gs q room cs fr root va al nb) (h5 : room ≤ 5000) (hnb : nb ≤ 1000) (hL : ∀ w', Below w0.heap.size w0 w' → Laid w') {K : List Int} {v : Value} {bs : List Int} {hh : Int} (hK : Key K) (hr : ∀ w', Below w0.heap.size w0 w' → Reads w' v bs) (hm : bs.length ≤ 2000) (HPost : Hid (∀ w' cs' fr' root' va' al', Sn w0 w' gc g gs q room cs' fr' root' va' al' (nb + 1) → P (.returned (.bool true)) w')) {k : Int} (k0 : (k == 0) = false) (k1 : (k == 1) = false) (k2 : (k == 2) = false) (k4 : (k == 4) = false) (k5 : (k == 5) = false) (k6 : (k == 6) = false) : Calls Tryz.prog 42 #[.pointer (some ⟨gc, 0, none⟩), .agg (apL k K v hh).toArray] w P := by
 have u0 := (⟨h5, hnb, hL, hK, hr, hm⟩ : _ ∧ _ ∧ _ ∧ _ ∧ _ ∧ _)
 clear u0
 have HKL := Za hK.1
 have HAZ : Hid ((Tryz.prog.info? 47).map (·.size) = some (apL k K v hh).toArray.toList.length) := by show _ = _; rw [List.toList_toArray, Zbi _ _ _ _ HKL.out]; exact Zcc
 obtain ⟨S, o⟩ := h.so
 have HO := Za o
 have HN := Za (h.more (Nat.le_succ nb))
 clear o h hK hr hm hL h5 hnb HAZ
 go_enter Tryz.func42, Tryz.ntmps42
 go_wp2_with (first
  | ((with_reducible refine Zo 3 ?_); refine Zc _ rfl _ _ rfl _ rfl ?_; intro w1 b3 hg3 hl3 B3 q1; have HQ1 := Za q1; have HB1 := Za (Kq.blk B3 (HO.out.new b3 hg3)); have HO1 := Za (HO.out.rebase q1); have zk := Zfd B3; have zh := Zcn B3 HKL.out; obtain ⟨y0, y1, y2, y3⟩ := Zr HO1.out.blk.now; clear hg3 hl3 B3 q1))
 exact HPost.out _ _ _ _ _ _ (HN.out.grow HQ1.out)
end Go.Proofs.YtbkolhhgajkjjaaGreatDoor
