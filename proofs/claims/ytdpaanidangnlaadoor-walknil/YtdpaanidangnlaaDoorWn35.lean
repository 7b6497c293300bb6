/- Calls of a store, as contracts: a list of handles beside a store; letGo. -/
import Derived.Test.YtdpaanidangnlaaDoorWn34
namespace Go.Proofs.YtdpaanidangnlaaDoor
set_option maxRecDepth 20000
open Go.RowKit

/-- The store, turned since w in its own blocks S alone, a list of numbers of the call's own beside it, and blocks X that hold what they hold and belong to neither. -/
def Dl (w : World) (S : List Nat) (g gs room : Nat) (cs : List (Nat × Ce)) (fr : List Nat) (v : Value) (xs : List Nat) (X : List (Nat × Obj)) (wr : World) : Prop :=
  ∃ vp vf, Stm wr g gs vp vf room cs fr ∧ Mod S w wr ∧ New S w (stB g gs vp vf cs) ∧ Lst wr 3 1 v xs.length (nats xs) ∧ (∀ k, v.ownBlock = some k → w.heap.size ≤ k ∧ k ∉ stB g gs vp vf cs) ∧ ∀ x ∈ X, wr.heap[x.1]? = some x.2 ∧ x.1 ∉ stB g gs vp vf cs ∧ v.ownBlock ≠ some x.1

theorem Dl.slice {w : World} {S : List Nat} {g gs room : Nat} {cs : List (Nat × Ce)} {fr : List Nat} {v : Value} {xs : List Nat} {X : List (Nat × Obj)} {wr : World} (h : Dl w S g gs room cs fr v xs X wr) : ∃ a c, v = .slice a xs.length c := by
  obtain ⟨_, _, _, _, _, h, _, _⟩ := h
  exact lst_slice h

theorem Dl.turned {w : World} {S : List Nat} {g gs room : Nat} {cs : List (Nat × Ce)} {fr : List Nat} {v : Value} {xs : List Nat} {X : List (Nat × Obj)} {wr : World} (h : Dl w S g gs room cs fr v xs X wr) : STurn w g gs S room cs fr wr := by
  obtain ⟨vp, vf, h1, h2, h3, _⟩ := h
  exact ⟨vp, vf, h1, h2, h3⟩

theorem Dl.c01 {w : World} {S : List Nat} {g gs room : Nat} {cs : List (Nat × Ce)} {fr : List Nat} {v : Value} {xs : List Nat} {X : List (Nat × Obj)} {wr : World} (h : Dl w S g gs room cs fr v xs X wr) : wr.cell? ⟨g, 0, none⟩ = some (.pointer (some ⟨g, 0, none⟩)) ∧ wr.cell? ⟨g, 1, none⟩ = some (.pointer (some ⟨gs, 0, none⟩)) := by
  obtain ⟨vp, vf, h1, _⟩ := h
  exact ⟨h1.c0, h1.c1⟩

theorem Dl.grow {w : World} {S : List Nat} {g gs room : Nat} {cs : List (Nat × Ce)} {fr : List Nat} {v : Value} {xs : List Nat} {X : List (Nat × Obj)} {wr w' : World} (h : Dl w S g gs room cs fr v xs X wr) (hb : Below wr.heap.size wr w') : Dl w S g gs room cs fr v xs X w' := by
  obtain ⟨vp, vf, h1, h2, h3, h4, h5, h6⟩ := h
  exact ⟨vp, vf, h1.grow hb, h2.trans' (Mod.of_below hb _), h3, lst_grow h4 hb, h5, fun x hx => ⟨(hb.block x.1 (Array.getElem?_eq_some_iff.1 (h6 x hx).1).1).trans (h6 x hx).1, (h6 x hx).2⟩⟩

theorem Dl.use {w : World} {S : List Nat} {g gs room : Nat} {cs cs' : List (Nat × Ce)} {fr fr' : List Nat} {v : Value} {xs : List Nat} {X : List (Nat × Obj)} {wr : World} {f : FuncId} {args : Array Value} {E : Ending} (h : Dl w S g gs room cs fr v xs X wr) (hc : ∀ vp vf, Stm wr g gs vp vf room cs fr → Calls Tryd.prog f args wr fun e w' => e = E ∧ STurn wr g gs (stB g gs vp vf cs) room cs' fr' w') : Calls Tryd.prog f args wr fun e w' => e = E ∧ Dl w S g gs room cs' fr' v xs X w' := by
  obtain ⟨vp, vf, h1, h2, h3, h4, h5, h6⟩ := h
  refine (hc vp vf h1).mono ?_
  rintro e w' ⟨rfl, t⟩
  refine ⟨rfl, ?_⟩
  obtain ⟨vp', vf', k1, k2, k3⟩ := t
  refine ⟨vp', vf', k1, h2.trans h3 k2, h3.trans h2.size k3, lst_mod h4 k2 (fun k hk => (h5 k hk).2), fun k hk => ⟨(h5 k hk).1, fun e => ?_⟩, fun x hx => ?_⟩
  · rcases k3 k e with e | e
    · exact (h5 k hk).2 e
    · have := lst_lt h4 k hk
      omega
  · obtain ⟨q1, q2, q3⟩ := h6 x hx
    have hlt := (Array.getElem?_eq_some_iff.1 q1).1
    refine ⟨(k2.block x.1 hlt q2).trans q1, fun e => ?_, q3⟩
    rcases k3 x.1 e with e | e
    · exact q2 e
    · omega

/-- A number more at the list's end. -/
theorem Dl.push {w : World} {S : List Nat} {g gs room : Nat} {cs : List (Nat × Ce)} {fr : List Nat} {v v' : Value} {xs : List Nat} {X : List (Nat × Obj)} {wr w' : World} {x : Nat} (h : Dl w S g gs room cs fr v xs X wr) (hl : Lst w' 3 1 v' (xs.length + 1) (nats xs ++ [.int .i64 (x : Int)])) (hg : wr.grownBy w' v.ownBlock) (hw : WhereL wr v v') : Dl w S g gs room cs fr v' (xs ++ [x]) X w' := by
  obtain ⟨vp, vf, h1, h2, h3, h4, h5, h6⟩ := h
  have m : Mod v.ownBlock.toList wr w' := Mod.of_grown hg (fun k hk => by simp [hk])
  have hn : ∀ k ∈ v.ownBlock.toList, w.heap.size ≤ k ∧ k ∉ stB g gs vp vf cs := fun k hk => h5 k (by simpa using hk)
  refine ⟨vp, vf, h1.mod m (fun k hk e => (hn k e).2 hk), ⟨m.os.trans h2.os, m.tape.trans h2.tape, m.output.trans h2.output, Nat.le_trans h2.size m.size, fun k hk hs => ?_⟩, h3, ?_, fun k hk => ?_, fun x hx => ?_⟩
  · rw [m.block k (Nat.lt_of_lt_of_le hk h2.size) (fun e => by have := (hn k e).1; omega)]
    exact h2.block k hk hs
  · rw [nats_snoc, List.length_append, List.length_singleton]
    exact hl
  · rcases hw with e | ⟨q, e, hq⟩
    · rw [e] at hk
      exact h5 k hk
    · rw [e] at hk
      injection hk with hk
      subst hk
      refine ⟨Nat.le_trans h2.size hq, fun e2 => ?_⟩
      have := h1.lts q e2
      omega
  · obtain ⟨q1, q2, q3⟩ := h6 x hx
    have hlt := (Array.getElem?_eq_some_iff.1 q1).1
    refine ⟨(m.block x.1 hlt (fun e => q3 (by simpa using e))).trans q1, q2, fun e2 => ?_⟩
    rcases hw with e | ⟨q, e, hq⟩
    · rw [e] at e2
      exact q3 e2
    · rw [e] at e2
      injection e2 with e2
      omega

/-- The last number off the list. -/
theorem Dl.pop {w : World} {S : List Nat} {g gs room : Nat} {cs : List (Nat × Ce)} {fr : List Nat} {xs : List Nat} {X : List (Nat × Obj)} {x b c : Nat} {wr : World} (h : Dl w S g gs room cs fr (.slice (some ⟨b, 0, none⟩) (xs ++ [x]).length c) (xs ++ [x]) X wr) : Dl w S g gs room cs fr (.slice (some ⟨b, 0, none⟩) xs.length c) xs X wr := by
  obtain ⟨vp, vf, h1, h2, h3, h4, h5, h6⟩ := h
  refine ⟨vp, vf, h1, h2, h3, ?_, fun k hk => h5 k hk, fun x hx => h6 x hx⟩
  have := lst_cut (m := xs.length) h4 (by simp)
  rw [Nat.mul_one, nats_take, List.take_left] at this
  exact this

theorem Dl.last {w : World} {S : List Nat} {g gs room : Nat} {cs : List (Nat × Ce)} {fr : List Nat} {xs : List Nat} {X : List (Nat × Obj)} {x : Nat} {v : Value} {wr : World} (h : Dl w S g gs room cs fr v (xs ++ [x]) X wr) : ∃ b c, v = .slice (some ⟨b, 0, none⟩) (xs.length + 1) c ∧ xs.length + 1 ≤ c ∧ wr.cell? ⟨b, xs.length, none⟩ = some (.int .i64 (x : Int)) := by
  obtain ⟨vp, vf, h1, h2, h3, h4, h5, _⟩ := h
  rw [List.length_append, List.length_singleton] at h4
  obtain ⟨b, c, rfl, hc⟩ := lst_pos h4 (by omega)
  refine ⟨b, c, rfl, hc, ?_⟩
  rw [lst_cell h4 _ (by omega), nats_snoc, List.getElem?_append_right (by rw [nats_length]; omega), nats_length, Nat.sub_self]
  rfl

theorem Dl.held {w : World} {S : List Nat} {g gs room : Nat} {cs : List (Nat × Ce)} {fr : List Nat} {v : Value} {xs : List Nat} {X : List (Nat × Obj)} {wr : World} {b : Nat} {t : TypeId} {cells : Array Value} (h : Dl w S g gs room cs fr v xs X wr) (hx : (b, Obj.cells cells t (0, 0)) ∈ X) : Blk wr b t cells := by
  obtain ⟨_, _, _, _, _, _, _, h6⟩ := h
  exact (h6 _ hx).1

theorem Dl.less {w : World} {S : List Nat} {g gs room : Nat} {cs : List (Nat × Ce)} {fr : List Nat} {v : Value} {xs : List Nat} {X Y : List (Nat × Obj)} {wr : World} (h : Dl w S g gs room cs fr v xs X wr) (hy : ∀ y ∈ Y, y ∈ X) : Dl w S g gs room cs fr v xs Y wr := by
  obtain ⟨vp, vf, h1, h2, h3, h4, h5, h6⟩ := h
  exact ⟨vp, vf, h1, h2, h3, h4, h5, fun x hx => h6 x (hy x hx)⟩

/-- A block that is new since then. -/
theorem Dl.hold {w : World} {S : List Nat} {g gs room : Nat} {cs : List (Nat × Ce)} {fr : List Nat} {v : Value} {xs : List Nat} {X : List (Nat × Obj)} {wr w' : World} {b : Nat} {o : Obj} (h : Dl w S g gs room cs fr v xs X wr) (hb : Below wr.heap.size wr w') (hk : wr.heap.size ≤ b) (hB : w'.heap[b]? = some o) : Dl w S g gs room cs fr v xs ((b, o) :: X) w' := by
  have hg := h.grow hb
  obtain ⟨vp0, vf0, h1, _, _, h4, _, _⟩ := h
  obtain ⟨vp, vf, g1, g2, g3, g4, g5, g6⟩ := hg
  have e1 : vp = vp0 := Option.some.inj (g1.sl.c2.symm.trans (h1.grow hb).sl.c2)
  have e2 : vf = vf0 := Option.some.inj (g1.sl.c3.symm.trans (h1.grow hb).sl.c3)
  subst e1 e2
  refine ⟨vp, vf, g1, g2, g3, g4, g5, fun x hx => ?_⟩
  rcases List.mem_cons.1 hx with rfl | hx
  · exact ⟨hB, fun e => by have := h1.lts _ e; simp only at this; omega, fun e => by have := lst_lt h4 _ e; simp only at this; omega⟩
  · exact g6 x hx

end Go.Proofs.YtdpaanidangnlaaDoor

/- Calls of a store, as contracts: Drop. -/
namespace Go.Proofs.YtdpaanidangnlaaDoor
set_option maxRecDepth 20000
open Go.RowKit

/-- All counts together are told by memory. -/
theorem tot_one {w : World} {g gs : Nat} {vp vf vp' vf' : Value} {room : Nat} {cs cs' : List (Nat × Ce)} {fr fr' : List Nat} (h : Stm w g gs vp vf room cs fr) (k : Stm w g gs vp' vf' room cs' fr') : tot cs = tot cs' := by
  have e1 : vp = vp' := Option.some.inj (h.sl.c2.symm.trans k.sl.c2)
  subst e1
  have hp := h.sl.pls
  have kp := k.sl.pls
  obtain ⟨a1, c1, q1⟩ := lst_slice hp
  obtain ⟨a2, c2, q2⟩ := lst_slice kp
  rw [q1] at q2
  injection q2 with _ e2 _
  have hl : cs.length = cs'.length := by simpa using e2
  have hc : ∀ i, i < cs.length → cc cs i = cc cs' i := fun i hi => by
    obtain ⟨b, c, e, _⟩ := lst_pos hp (by simp; omega)
    have hp' := hp
    have kp' := kp
    rw [e] at hp'
    have e3 : vp = .slice (some ⟨b, 0, none⟩) (cs'.map pl).length c := by rw [e]; simp [hl]
    rw [e3] at kp'
    have hm : i * (71 + 1) < (cs.map pl).length * (71 + 1) := Nat.mul_lt_mul_of_pos_right (by simpa using hi) (by omega)
    have c1 := lst_cell hp' (i * (71 + 1)) hm
    have c2 := lst_cell kp' (i * (71 + 1)) (by simpa [hl] using hm)
    rw [flatS_count h.sl.wid i (by simpa using hi)] at c1
    rw [flatS_count k.sl.wid i (by simp; omega)] at c2
    rw [c1] at c2
    injection c2 with c2
    injection c2 with _ c2
    rw [cnt_pl, cnt_pl] at c2
    omega
  unfold tot
  congr 1
  apply List.ext_getElem (by simpa using hl)
  intro i h1 h2
  have := hc i (by simpa using h1)
  have h1' : i < cs.length := by simpa using h1
  have h2' : i < cs'.length := by simpa using h2
  simpa [cc, h1', h2'] using this

theorem tot_fun (g gs room : Nat) : ∃ mea : World → Nat, ∀ w vp vf cs fr, Stm w g gs vp vf room cs fr → mea w = tot cs := by
  have h : ∀ w : World, ∃ m : Nat, ∀ vp vf cs fr, Stm w g gs vp vf room cs fr → m = tot cs := fun w => by
    by_cases e : ∃ vp vf cs fr, Stm w g gs vp vf room cs fr
    · obtain ⟨vp, vf, cs, fr, h⟩ := e
      exact ⟨tot cs, fun vp' vf' cs' fr' k => tot_one h k⟩
    · exact ⟨0, fun vp vf cs fr k => absurd ⟨vp, vf, cs, fr, k⟩ e⟩
  exact ⟨fun w => Classical.choose (h w), fun w => Classical.choose_spec (h w)⟩

theorem ne0_rev (h : Nat) : (ne0 h).reverse = ne0 h := by
  unfold ne0
  split <;> rfl

theorem lst_one (w : World) (b : Nat) (x : Nat) (h : Blk w b 3 #[.int .i64 (x : Int)]) : Lst w 3 1 (.slice (some ⟨b, 0, none⟩) 1 1) 1 (nats [x]) := ⟨by simp [nats], .inr ⟨b, 1, _, rfl, Nat.zero_le _, h, by omega, by decide, by simp, by simp [nats]⟩⟩

end Go.Proofs.YtdpaanidangnlaaDoor
