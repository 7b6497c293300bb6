/- Calls of a store, as contracts: a list of handles beside a store; letGo. -/
import Derived.Test.YtdpaanidangnlaaDoorWt22
namespace Go.Proofs.YtdpaanidangnlaaDoor
set_option maxRecDepth 20000
open Go.RowKit

/-- The store, turned since w in its own blocks S alone, a list of numbers of the call's own beside it, and blocks X that hold what they hold and belong to neither. -/
def Dl (w : World) (S : List Nat) (g gs room : Nat) (cs : List (Nat × Ce)) (fr : List Nat) (v : Value) (xs : List Nat) (X : List (Nat × Obj)) (wr : World) : Prop :=
  ∃ vp vf, Stm wr g gs vp vf room cs fr ∧ Mod S w wr ∧ New S w (stB g gs vp vf cs) ∧ Lst wr 3 1 v xs.length (nats xs) ∧ (∀ k, v.ownBlock = some k → w.heap.size ≤ k ∧ k ∉ stB g gs vp vf cs) ∧ ∀ x ∈ X, wr.heap[x.1]? = some x.2 ∧ x.1 ∉ stB g gs vp vf cs ∧ v.ownBlock ≠ some x.1

theorem Dl.slice {w : World} {S : List Nat} {g gs room : Nat} {cs : List (Nat × Ce)} {fr : List Nat} {v : Value} {xs : List Nat} {X : List (Nat × Obj)} {wr : World} (h : Dl w S g gs room cs fr v xs X wr) : ∃ a c, v = .slice a xs.length c := by
  obtain ⟨_, _, _, _, _, h, _, _⟩ := h
  exact lst_slice h

theorem Dl.turned {w : World} {S : List Nat} {g gs room : Nat} {cs : List (Nat × Ce)} {fr : List Nat} {v : Value} {xs : List Nat} {X : List (Nat × Obj)} {wr : World} (h : Dl w S g gs room cs fr v xs X wr) : STurn w g gs S room cs fr wr := by
  obtain ⟨vp, vf, h1, h2, h3, _⟩ := h
  exact ⟨vp, vf, h1, h2, h3⟩

theorem Dl.c01 {w : World} {S : List Nat} {g gs room : Nat} {cs : List (Nat × Ce)} {fr : List Nat} {v : Value} {xs : List Nat} {X : List (Nat × Obj)} {wr : World} (h : Dl w S g gs room cs fr v xs X wr) : wr.cell? ⟨g, 0, none⟩ = some (.pointer (some ⟨g, 0, none⟩)) ∧ wr.cell? ⟨g, 1, none⟩ = some (.pointer (some ⟨gs, 0, none⟩)) := by
  obtain ⟨vp, vf, h1, _⟩ := h
  exact ⟨h1.c0, h1.c1⟩

theorem Dl.grow {w : World} {S : List Nat} {g gs room : Nat} {cs : List (Nat × Ce)} {fr : List Nat} {v : Value} {xs : List Nat} {X : List (Nat × Obj)} {wr w' : World} (h : Dl w S g gs room cs fr v xs X wr) (hb : Below wr.heap.size wr w') : Dl w S g gs room cs fr v xs X w' := by
  obtain ⟨vp, vf, h1, h2, h3, h4, h5, h6⟩ := h
  exact ⟨vp, vf, h1.grow hb, h2.trans' (Mod.of_below hb _), h3, lst_grow h4 hb, h5, fun x hx => ⟨(hb.block x.1 (Array.getElem?_eq_some_iff.1 (h6 x hx).1).1).trans (h6 x hx).1, (h6 x hx).2⟩⟩

theorem Dl.use {w : World} {S : List Nat} {g gs room : Nat} {cs cs' : List (Nat × Ce)} {fr fr' : List Nat} {v : Value} {xs : List Nat} {X : List (Nat × Obj)} {wr : World} {f : FuncId} {args : Array Value} {E : Ending} (h : Dl w S g gs room cs fr v xs X wr) (hc : ∀ vp vf, Stm wr g gs vp vf room cs fr → Calls Tryd.prog f args wr fun e w' => e = E ∧ STurn wr g gs (stB g gs vp vf cs) room cs' fr' w') : Calls Tryd.prog f args wr fun e w' => e = E ∧ Dl w S g gs room cs' fr' v xs X w' := by
  obtain ⟨vp, vf, h1, h2, h3, h4, h5, h6⟩ := h
  refine (hc vp vf h1).mono ?_
  rintro e w' ⟨rfl, t⟩
  refine ⟨rfl, ?_⟩
  obtain ⟨vp', vf', k1, k2, k3⟩ := t
  refine ⟨vp', vf', k1, h2.trans h3 k2, h3.trans h2.size k3, lst_mod h4 k2 (fun k hk => (h5 k hk).2), fun k hk => ⟨(h5 k hk).1, fun e => ?_⟩, fun x hx => ?_⟩
  · rcases k3 k e with e | e
    · exact (h5 k hk).2 e
    · have := lst_lt h4 k hk
      omega
  · obtain ⟨q1, q2, q3⟩ := h6 x hx
    have hlt := (Array.getElem?_eq_some_iff.1 q1).1
    refine ⟨(k2.block x.1 hlt q2).trans q1, fun e => ?_, q3⟩
    rcases k3 x.1 e with e | e
    · exact q2 e
    · omega

/-- A number more at the list's end. -/
theorem Dl.push {w : World} {S : List Nat} {g gs room : Nat} {cs : List (Nat × Ce)} {fr : List Nat} {v v' : Value} {xs : List Nat} {X : List (Nat × Obj)} {wr w' : World} {x : Nat} (h : Dl w S g gs room cs fr v xs X wr) (hl : Lst w' 3 1 v' (xs.length + 1) (nats xs ++ [.int .i64 (x : Int)])) (hg : wr.grownBy w' v.ownBlock) (hw : WhereL wr v v') : Dl w S g gs room cs fr v' (xs ++ [x]) X w' := by
  obtain ⟨vp, vf, h1, h2, h3, h4, h5, h6⟩ := h
  have m : Mod v.ownBlock.toList wr w' := Mod.of_grown hg (fun k hk => by simp [hk])
  have hn : ∀ k ∈ v.ownBlock.toList, w.heap.size ≤ k ∧ k ∉ stB g gs vp vf cs := fun k hk => h5 k (by simpa using hk)
  refine ⟨vp, vf, h1.mod m (fun k hk e => (hn k e).2 hk), ⟨m.os.trans h2.os, m.tape.trans h2.tape, m.output.trans h2.output, Nat.le_trans h2.size m.size, fun k hk hs => ?_⟩, h3, ?_, fun k hk => ?_, fun x hx => ?_⟩
  · rw [m.block k (Nat.lt_of_lt_of_le hk h2.size) (fun e => by have := (hn k e).1; omega)]
    exact h2.block k hk hs
  · rw [nats_snoc, List.length_append, List.length_singleton]
    exact hl
  · rcases hw with e | ⟨q, e, hq⟩
    · rw [e] at hk
      exact h5 k hk
    · rw [e] at hk
      injection hk with hk
      subst hk
      refine ⟨Nat.le_trans h2.size hq, fun e2 => ?_⟩
      have := h1.lts q e2
      omega
  · obtain ⟨q1, q2, q3⟩ := h6 x hx
    have hlt := (Array.getElem?_eq_some_iff.1 q1).1
    refine ⟨(m.block x.1 hlt (fun e => q3 (by simpa using e))).trans q1, q2, fun e2 => ?_⟩
    rcases hw with e | ⟨q, e, hq⟩
    · rw [e] at e2
      exact q3 e2
    · rw [e] at e2
      injection e2 with e2
      omega

/-- The last number off the list. -/
theorem Dl.pop {w : World} {S : List Nat} {g gs room : Nat} {cs : List (Nat × Ce)} {fr : List Nat} {xs : List Nat} {X : List (Nat × Obj)} {x b c : Nat} {wr : World} (h : Dl w S g gs room cs fr (.slice (some ⟨b, 0, none⟩) (xs ++ [x]).length c) (xs ++ [x]) X wr) : Dl w S g gs room cs fr (.slice (some ⟨b, 0, none⟩) xs.length c) xs X wr := by
  obtain ⟨vp, vf, h1, h2, h3, h4, h5, h6⟩ := h
  refine ⟨vp, vf, h1, h2, h3, ?_, fun k hk => h5 k hk, fun x hx => h6 x hx⟩
  have := lst_cut (m := xs.length) h4 (by simp)
  rw [Nat.mul_one, nats_take, List.take_left] at this
  exact this

theorem Dl.last {w : World} {S : List Nat} {g gs room : Nat} {cs : List (Nat × Ce)} {fr : List Nat} {xs : List Nat} {X : List (Nat × Obj)} {x : Nat} {v : Value} {wr : World} (h : Dl w S g gs room cs fr v (xs ++ [x]) X wr) : ∃ b c, v = .slice (some ⟨b, 0, none⟩) (xs.length + 1) c ∧ xs.length + 1 ≤ c ∧ wr.cell? ⟨b, xs.length, none⟩ = some (.int .i64 (x : Int)) := by
  obtain ⟨vp, vf, h1, h2, h3, h4, h5, _⟩ := h
  rw [List.length_append, List.length_singleton] at h4
  obtain ⟨b, c, rfl, hc⟩ := lst_pos h4 (by omega)
  refine ⟨b, c, rfl, hc, ?_⟩
  rw [lst_cell h4 _ (by omega), nats_snoc, List.getElem?_append_right (by rw [nats_length]; omega), nats_length, Nat.sub_self]
  rfl

theorem Dl.held {w : World} {S : List Nat} {g gs room : Nat} {cs : List (Nat × Ce)} {fr : List Nat} {v : Value} {xs : List Nat} {X : List (Nat × Obj)} {wr : World} {b : Nat} {t : TypeId} {cells : Array Value} (h : Dl w S g gs room cs fr v xs X wr) (hx : (b, Obj.cells cells t (0, 0)) ∈ X) : Blk wr b t cells := by
  obtain ⟨_, _, _, _, _, _, _, h6⟩ := h
  exact (h6 _ hx).1

theorem Dl.less {w : World} {S : List Nat} {g gs room : Nat} {cs : List (Nat × Ce)} {fr : List Nat} {v : Value} {xs : List Nat} {X Y : List (Nat × Obj)} {wr : World} (h : Dl w S g gs room cs fr v xs X wr) (hy : ∀ y ∈ Y, y ∈ X) : Dl w S g gs room cs fr v xs Y wr := by
  obtain ⟨vp, vf, h1, h2, h3, h4, h5, h6⟩ := h
  exact ⟨vp, vf, h1, h2, h3, h4, h5, fun x hx => h6 x (hy x hx)⟩

/-- A block that is new since then. -/
theorem Dl.hold {w : World} {S : List Nat} {g gs room : Nat} {cs : List (Nat × Ce)} {fr : List Nat} {v : Value} {xs : List Nat} {X : List (Nat × Obj)} {wr w' : World} {b : Nat} {o : Obj} (h : Dl w S g gs room cs fr v xs X wr) (hb : Below wr.heap.size wr w') (hk : wr.heap.size ≤ b) (hB : w'.heap[b]? = some o) : Dl w S g gs room cs fr v xs ((b, o) :: X) w' := by
  have hg := h.grow hb
  obtain ⟨vp0, vf0, h1, _, _, h4, _, _⟩ := h
  obtain ⟨vp, vf, g1, g2, g3, g4, g5, g6⟩ := hg
  have e1 : vp = vp0 := Option.some.inj (g1.sl.c2.symm.trans (h1.grow hb).sl.c2)
  have e2 : vf = vf0 := Option.some.inj (g1.sl.c3.symm.trans (h1.grow hb).sl.c3)
  subst e1 e2
  refine ⟨vp, vf, g1, g2, g3, g4, g5, fun x hx => ?_⟩
  rcases List.mem_cons.1 hx with rfl | hx
  · exact ⟨hB, fun e => by have := h1.lts _ e; simp only at this; omega, fun e => by have := lst_lt h4 _ e; simp only at this; omega⟩
  · exact g6 x hx

end Go.Proofs.YtdpaanidangnlaaDoor

/- Calls of a store, as contracts: Drop. -/
namespace Go.Proofs.YtdpaanidangnlaaDoor
set_option maxRecDepth 20000
open Go.RowKit

/-- All counts together are told by memory. -/
theorem tot_one {w : World} {g gs : Nat} {vp vf vp' vf' : Value} {room : Nat} {cs cs' : List (Nat × Ce)} {fr fr' : List Nat} (h : Stm w g gs vp vf room cs fr) (k : Stm w g gs vp' vf' room cs' fr') : tot cs = tot cs' := by
  have e1 : vp = vp' := Option.some.inj (h.sl.c2.symm.trans k.sl.c2)
  subst e1
  have hp := h.sl.pls
  have kp := k.sl.pls
  obtain ⟨a1, c1, q1⟩ := lst_slice hp
  obtain ⟨a2, c2, q2⟩ := lst_slice kp
  rw [q1] at q2
  injection q2 with _ e2 _
  have hl : cs.length = cs'.length := by simpa using e2
  have hc : ∀ i, i < cs.length → cc cs i = cc cs' i := fun i hi => by
    obtain ⟨b, c, e, _⟩ := lst_pos hp (by simp; omega)
    have hp' := hp
    have kp' := kp
    rw [e] at hp'
    have e3 : vp = .slice (some ⟨b, 0, none⟩) (cs'.map pl).length c := by rw [e]; simp [hl]
    rw [e3] at kp'
    have hm : i * (71 + 1) < (cs.map pl).length * (71 + 1) := Nat.mul_lt_mul_of_pos_right (by simpa using hi) (by omega)
    have c1 := lst_cell hp' (i * (71 + 1)) hm
    have c2 := lst_cell kp' (i * (71 + 1)) (by simpa [hl] using hm)
    rw [flatS_count h.sl.wid i (by simpa using hi)] at c1
    rw [flatS_count k.sl.wid i (by simp; omega)] at c2
    rw [c1] at c2
    injection c2 with c2
    injection c2 with _ c2
    rw [cnt_pl, cnt_pl] at c2
    omega
  unfold tot
  congr 1
  apply List.ext_getElem (by simpa using hl)
  intro i h1 h2
  have := hc i (by simpa using h1)
  have h1' : i < cs.length := by simpa using h1
  have h2' : i < cs'.length := by simpa using h2
  simpa [cc, h1', h2'] using this

theorem tot_fun (g gs room : Nat) : ∃ mea : World → Nat, ∀ w vp vf cs fr, Stm w g gs vp vf room cs fr → mea w = tot cs := by
  have h : ∀ w : World, ∃ m : Nat, ∀ vp vf cs fr, Stm w g gs vp vf room cs fr → m = tot cs := fun w => by
    by_cases e : ∃ vp vf cs fr, Stm w g gs vp vf room cs fr
    · obtain ⟨vp, vf, cs, fr, h⟩ := e
      exact ⟨tot cs, fun vp' vf' cs' fr' k => tot_one h k⟩
    · exact ⟨0, fun vp vf cs fr k => absurd ⟨vp, vf, cs, fr, k⟩ e⟩
  exact ⟨fun w => Classical.choose (h w), fun w => Classical.choose_spec (h w)⟩

theorem ne0_rev (h : Nat) : (ne0 h).reverse = ne0 h := by
  unfold ne0
  split <;> rfl

theorem lst_one (w : World) (b : Nat) (x : Nat) (h : Blk w b 3 #[.int .i64 (x : Int)]) : Lst w 3 1 (.slice (some ⟨b, 0, none⟩) 1 1) 1 (nats [x]) := ⟨by simp [nats], .inr ⟨b, 1, _, rfl, Nat.zero_le _, h, by omega, by decide, by simp, by simp [nats]⟩⟩

end Go.Proofs.YtdpaanidangnlaaDoor

/- A store that a walk keeps, in whatever blocks of the walk's own it lies, and each call of it. -/
namespace Go.Proofs.YtdpaanidangnlaaDoor
set_option maxRecDepth 20000
open Go.RowKit

/-- The store at g holds these nodes, all its blocks are new since w0, and nothing of w0 has turned. -/
def Hw (w0 w : World) (g gs room : Nat) (cs : List (Nat × Ce)) (fr : List Nat) : Prop := (∃ vp vf, Stm w g gs vp vf room cs fr ∧ (∀ k ∈ stB g gs vp vf cs, w0.heap.size ≤ k) ∧ Below w0.heap.size w0 w) ∧ Wf cs []

theorem Hw.low {w0 w : World} {g gs room : Nat} {cs : List (Nat × Ce)} {fr : List Nat} (h : Hw w0 w g gs room cs fr) : Below w0.heap.size w0 w := by
  obtain ⟨⟨_, _, _, _, h⟩, _⟩ := h
  exact h
theorem Hw.grow {w0 w w' : World} {g gs room : Nat} {cs : List (Nat × Ce)} {fr : List Nat} (h : Hw w0 w g gs room cs fr) (hb : Below w.heap.size w w') : Hw w0 w' g gs room cs fr := by
  obtain ⟨⟨vp, vf, h1, h2, h3⟩, h4⟩ := h
  exact ⟨⟨vp, vf, h1.grow hb, h2, grow_trans h3 hb⟩, h4⟩
theorem Hw.vw {w0 w : World} {g gs room : Nat} {cs : List (Nat × Ce)} {fr : List Nat} (h : Hw w0 w g gs room cs fr) : Vw w (.pointer (some ⟨g, 0, none⟩)) true (cot cs) (cat cs) := by
  obtain ⟨⟨vp, vf, h1, h2, h3⟩, h4⟩ := h
  exact vw_ok h1 h4
theorem Hw.inv {w0 w : World} {g gs room : Nat} {cs : List (Nat × Ce)} {fr : List Nat} (h : Hw w0 w g gs room cs fr) : Inv room (cs.map pl) fr := by
  obtain ⟨⟨vp, vf, h1, h2, h3⟩, h4⟩ := h
  exact h1.sl.inv
theorem Hw.turn {w0 w w' : World} {g gs room : Nat} {cs cs' : List (Nat × Ce)} {fr' : List Nat} {vp vf : Value} (h2 : ∀ k ∈ stB g gs vp vf cs, w0.heap.size ≤ k) (h3 : Below w0.heap.size w0 w) (t : STurn w g gs (stB g gs vp vf cs) room cs' fr' w') (hw : Wf cs' []) : Hw w0 w' g gs room cs' fr' := by
  obtain ⟨vp', vf', k1, k2, k3⟩ := t
  exact ⟨⟨vp', vf', k1, k3.base h2 h3.size, h3.trans (k2.below h2 h3.size)⟩, hw⟩

theorem hw_new (room : Nat) (w0 w : World) (hb : Below w0.heap.size w0 w) (h1 : 1 ≤ room) (h2 : room ≤ 65536) : Calls Tryd.prog 6 #[.int .i64 (room : Int)] w fun e w' => ∃ g gs, e = .returned (.tuple #[.pointer (some ⟨g, 0, none⟩), .int .i64 0]) ∧ Hw w0 w' g gs room [] [] := by
  refine (newS_ok room w h1 h2).mono ?_
  rintro e w' ⟨g, gs, rfl, hg, hgs, s, b⟩
  refine ⟨g, gs, rfl, ⟨_, _, s, fun k hk => ?_, grow_trans hb b⟩, Wf.new⟩
  have := hb.size
  rcases stB_mem.1 hk with rfl | hk | ⟨i, hk⟩
  · omega
  · rcases slB_mem.1 hk with rfl | hk | hk
    · omega
    · cases hk
    · cases hk
  · simp only [ce, List.getElem?_nil, Option.getD_none] at hk
    cases hk

theorem leaf_ok (K : List Int) (v : Value) (bs : List Int) (hb : Bytes bs) (hl : bs.length ≤ 1024) : LeafOk (lfC (lfD K (vaD bs)) K v bs) := ⟨rfl, rfl, rfl, rfl, rfl, rfl, hl, hb⟩

theorem hw_leaf {w0 w : World} {g gs room : Nat} {cs : List (Nat × Ce)} {fr : List Nat} (h : Hw w0 w g gs room cs fr) (K : List Int) (v : Value) (bs : List Int) (hr : Reads w v bs) (hK : Key K) (hL : Laid w) (hl : bs.length ≤ 1024) (hf : ¬ Full room cs fr) : Calls Tryd.prog 23 #[.pointer (some ⟨g, 0, none⟩), .agg (B K), v] w fun e w' => ∃ v', e = .returned (.tuple #[.int .i64 (tkH cs fr : Int), .int .i64 0]) ∧ Hw w0 w' g gs room (tkC cs fr (1, lfC (lfD K (vaD bs)) K v' bs)) fr.dropLast := by
  obtain ⟨⟨vp, vf, h1, h2, h3⟩, h4⟩ := h
  have hbs : Bytes bs := by obtain ⟨_, _, _, _, _, hb, _⟩ := hr; exact hb
  refine (leafS_ok h1 K v bs hr hK hL hl hf).mono ?_
  rintro e w' ⟨v', rfl, ok, t⟩
  have tk := (tk_of (frOk_inv h1.sl.inv) (1, lfC (lfD K (vaD bs)) K v' bs)).2
  exact ⟨v', rfl, Hw.turn h2 h3 t (h4.leaf tk (leaf_ok K v' bs hbs hl) ok rfl)⟩

theorem hw_leaf_full {w0 w : World} {g gs room : Nat} {cs : List (Nat × Ce)} {fr : List Nat} (h : Hw w0 w g gs room cs fr) (K : List Int) (v : Value) (bs : List Int) (hr : Reads w v bs) (hK : Key K) (hL : Laid w) (hl : bs.length ≤ 1024) (hf : Full room cs fr) : Calls Tryd.prog 23 #[.pointer (some ⟨g, 0, none⟩), .agg (B K), v] w fun e w' => e = .returned (.tuple #[.int .i64 0, .int .i64 9]) ∧ Hw w0 w' g gs room cs fr := by
  have hh := h
  obtain ⟨⟨vp, vf, h1, h2, h3⟩, h4⟩ := h
  exact (leafS_full h1 K v bs hr hK hL hl hf).mono fun e w' ⟨e1, b⟩ => ⟨e1, hh.grow b⟩

theorem hw_leaf_long {w0 w : World} {g gs room : Nat} {cs : List (Nat × Ce)} {fr : List Nat} (h : Hw w0 w g gs room cs fr) (K : List Int) (v : Value) (bs : List Int) (hr : Reads w v bs) (hK : Key K) (hl : 1024 < bs.length) (hm : bs.length ≤ 140737488355328) : Calls Tryd.prog 23 #[.pointer (some ⟨g, 0, none⟩), .agg (B K), v] w fun e w' => e = .returned (.tuple #[.int .i64 0, .int .i64 4]) ∧ Hw w0 w' g gs room cs fr := by
  have hh := h
  obtain ⟨⟨vp, vf, h1, h2, h3⟩, h4⟩ := h
  exact (leafS_long h1 K v bs hr hK hl hm).mono fun e w' ⟨e1, b⟩ => ⟨e1, hh.grow b⟩

/-! ### Sides that fit -/
theorem Wf.kinds {cs : List (Nat × Ce)} {pend : List Nat} (w : Wf cs pend) (i : Nat) (hi : 0 < cc cs i) : (ce cs i).kind = 1 ∨ (ce cs i).kind = 2 := by
  rcases w.tr i hi with h | h
  · exact .inl h.kind
  · exact .inr h.kind

theorem side_fit {cs : List (Nat × Ce)} {pend : List Nat} (w : Wf cs pend) {h d : Nat} {b : Int} (m : mayP cs (h : Int)) (hf : fsP (sdC cs h) d b = true) : SideOk cs d b h := by
  rcases m.side with e | ⟨h1, h2, h3⟩
  · exact .inl e
  · refine .inr ⟨h1, h2, ?_⟩
    unfold sdC at hf
    rw [if_neg (by omega)] at hf
    unfold fsP at hf
    rcases w.kinds _ h2 with k | k
    · rw [if_pos k] at hf
      exact ⟨by simpa using hf, .inl k⟩
    · rw [if_neg (by omega), if_pos k] at hf
      simp only [Bool.and_eq_true, decide_eq_true_eq] at hf
      exact ⟨hf.2, .inr ⟨k, hf.1⟩⟩

theorem kind0 {cs : List (Nat × Ce)} {pend : List Nat} (w : Wf cs pend) {h : Nat} (m : mayP cs (h : Int)) : (sdC cs h).kind = 0 ↔ h = 0 := by
  constructor
  · intro e
    rcases m.side with e2 | ⟨h1, h2, h3⟩
    · exact e2
    · unfold sdC at e
      rw [if_neg (by omega)] at e
      rcases w.kinds _ h2 with k | k <;> omega
  · rintro rfl
    rfl

theorem inn_ok {cs : List (Nat × Ce)} {pend : List Nat} (w : Wf cs pend) {d l r : Nat} {K : List Int} {u : Bool} (hd : d < 256) (ml : mayP cs (l : Int)) (mr : mayP cs (r : Int)) (hu : u = true ↔ Und (sdC cs l).key (sdC cs r).key (d : Int)) (hf : fitP d (sdC cs l) (sdC cs r) u = true) (hK : IsFill (if (sdC cs l).kind = 0 then (sdC cs r).key else (sdC cs l).key) d 0 K) : InnOk cs (inC (inD (sdD cs l) (sdD cs r)) K ((sdC cs l).sz + (sdC cs r).sz) d l r) := by
  unfold fitP at hf
  simp only [Bool.and_eq_true, Bool.or_eq_true, decide_eq_true_eq] at hf
  obtain ⟨h1, h2, h3, h4⟩ := hf
  refine ⟨rfl, hd, rfl, rfl, side_fit w ml h2, side_fit w mr h3, rfl, h1, fun hl hr => ?_, ?_, rfl⟩
  · rcases h4 with h4 | h4 | h4
    · exact absurd ((kind0 w ml).1 h4) hl
    · exact absurd ((kind0 w mr).1 h4) hr
    · exact hu.1 h4
  · by_cases e : l = 0
    · have := (kind0 w ml).2 e
      rw [if_pos this] at hK
      show IsFill (if l = 0 then _ else _) d 0 K
      rw [if_pos e]
      exact hK
    · have : ¬ (sdC cs l).kind = 0 := fun q => e ((kind0 w ml).1 q)
      rw [if_neg this] at hK
      show IsFill (if l = 0 then _ else _) d 0 K
      rw [if_neg e]
      exact hK

theorem mayP.own {cs : List (Nat × Ce)} {h : Nat} (m : mayP cs (h : Int)) (h0 : h ≠ 0) : 0 < Go.Proofs.YtdpaanidangnlaaDoor.own cs [] (h - 1) := by
  rcases m.side with e | ⟨_, _, e⟩
  · exact absurd e h0
  · unfold Go.Proofs.YtdpaanidangnlaaDoor.own
    rw [List.count_nil]
    omega

theorem hw_inner {w0 w : World} {g gs room : Nat} {cs : List (Nat × Ce)} {fr : List Nat} (h : Hw w0 w g gs room cs fr) (d l r : Nat) (hd : d < 256) (hml : mayP cs (l : Int)) (hmr : mayP cs (r : Int)) (u : Bool) (hu : u = true ↔ Und (sdC cs l).key (sdC cs r).key (d : Int)) (hf : fitP d (sdC cs l) (sdC cs r) u = true) (hL : Laid w) (hfu : ¬ Full room cs fr) : Calls Tryd.prog 24 #[.pointer (some ⟨g, 0, none⟩), .int .i64 (d : Int), .int .i64 (l : Int), .int .i64 (r : Int)] w fun e w' => ∃ K, IsFill (if (sdC cs l).kind = 0 then (sdC cs r).key else (sdC cs l).key) d 0 K ∧ e = .returned (.tuple #[.int .i64 (tkH cs fr : Int), .int .i64 0]) ∧ Hw w0 w' g gs room (upA (upA (tkC cs fr (1, inC (inD (sdD cs l) (sdD cs r)) K ((sdC cs l).sz + (sdC cs r).sz) d l r)) l) r) fr.dropLast := by
  obtain ⟨⟨vp, vf, h1, h2, h3⟩, h4⟩ := h
  refine (innerS_ok h1 h4 d l r hd hml hmr u hu hf hL hfu).mono ?_
  rintro e w' ⟨K, hK, rfl, t⟩
  have tk := (tk_of (frOk_inv h1.sl.inv) (1, inC (inD (sdD cs l) (sdD cs r)) K ((sdC cs l).sz + (sdC cs r).sz) d l r)).2
  exact ⟨K, hK, rfl, Hw.turn h2 h3 t (h4.inner tk (inn_ok h4 hd hml hmr hu hf hK) ⟨dig_length _, dig_bytes _, hK.1, none, 0, rfl⟩ rfl hml.own hmr.own)⟩

theorem hw_inner_full {w0 w : World} {g gs room : Nat} {cs : List (Nat × Ce)} {fr : List Nat} (h : Hw w0 w g gs room cs fr) (d l r : Nat) (hd : d < 256) (hml : mayP cs (l : Int)) (hmr : mayP cs (r : Int)) (u : Bool) (hu : u = true ↔ Und (sdC cs l).key (sdC cs r).key (d : Int)) (hf : fitP d (sdC cs l) (sdC cs r) u = true) (hL : Laid w) (hfu : Full room cs fr) : Calls Tryd.prog 24 #[.pointer (some ⟨g, 0, none⟩), .int .i64 (d : Int), .int .i64 (l : Int), .int .i64 (r : Int)] w fun e w' => e = .returned (.tuple #[.int .i64 0, .int .i64 9]) ∧ Hw w0 w' g gs room cs fr := by
  have hh := h
  obtain ⟨⟨vp, vf, h1, h2, h3⟩, h4⟩ := h
  exact (innerS_full h1 h4 d l r hd hml hmr u hu hf hL hfu).mono fun e w' ⟨e1, b⟩ => ⟨e1, hh.grow b⟩
theorem hw_inner_unfit {w0 w : World} {g gs room : Nat} {cs : List (Nat × Ce)} {fr : List Nat} (h : Hw w0 w g gs room cs fr) (d l r : Nat) (hd : d < 256) (hml : mayP cs (l : Int)) (hmr : mayP cs (r : Int)) (u : Bool) (hu : u = true ↔ Und (sdC cs l).key (sdC cs r).key (d : Int)) (hf : fitP d (sdC cs l) (sdC cs r) u = false) : Calls Tryd.prog 24 #[.pointer (some ⟨g, 0, none⟩), .int .i64 (d : Int), .int .i64 (l : Int), .int .i64 (r : Int)] w fun e w' => e = .returned (.tuple #[.int .i64 0, .int .i64 2]) ∧ Hw w0 w' g gs room cs fr := by
  have hh := h
  obtain ⟨⟨vp, vf, h1, h2, h3⟩, h4⟩ := h
  exact (innerS_unfit h1 h4 d l r hd hml hmr u hu hf).mono fun e w' ⟨e1, b⟩ => ⟨e1, hh.grow b⟩
theorem hw_inner_miss {w0 w : World} {g gs room : Nat} {cs : List (Nat × Ce)} {fr : List Nat} (h : Hw w0 w g gs room cs fr) (d : Nat) (l r : Int) (hd : d < 256) (hm : ¬ (mayP cs l ∧ mayP cs r)) : Calls Tryd.prog 24 #[.pointer (some ⟨g, 0, none⟩), .int .i64 (d : Int), .int .i64 l, .int .i64 r] w fun e w' => e = .returned (.tuple #[.int .i64 0, .int .i64 7]) ∧ Hw w0 w' g gs room cs fr := by
  have hh := h
  obtain ⟨⟨vp, vf, h1, h2, h3⟩, h4⟩ := h
  exact (innerS_miss h1 h4 d l r hd hm).mono fun e w' ⟨e1, b⟩ => ⟨e1, hh.grow b⟩
theorem hw_inner_arg {w0 w : World} {g gs room : Nat} {cs : List (Nat × Ce)} {fr : List Nat} (h : Hw w0 w g gs room cs fr) (d l r : Int) (hd : d < 0 ∨ 256 ≤ d) : Calls Tryd.prog 24 #[.pointer (some ⟨g, 0, none⟩), .int .i64 d, .int .i64 l, .int .i64 r] w fun e w' => e = .returned (.tuple #[.int .i64 0, .int .i64 2]) ∧ Hw w0 w' g gs room cs fr := by
  have hh := h
  obtain ⟨⟨vp, vf, h1, h2, h3⟩, h4⟩ := h
  exact (innerS_arg h1 d l r hd).mono fun e w' ⟨e1, b⟩ => ⟨e1, hh.grow b⟩

end Go.Proofs.YtdpaanidangnlaaDoor
