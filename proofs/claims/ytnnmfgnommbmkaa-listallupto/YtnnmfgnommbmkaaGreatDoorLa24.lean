/- Calls of a store, as contracts: a list of handles beside a store; letGo. -/
import Derived.Test.YtnnmfgnommbmkaaGreatDoorLa01
import Derived.Test.YtnnmfgnommbmkaaGreatDoorLa23
namespace Go.Proofs.YtnnmfgnommbmkaaGreatDoor
set_option maxRecDepth 20000
open Go.RowKit

def Dl (w : World) (S : List Nat) (g gs room : Nat) (cs : List (Nat × Ce)) (fr : List Nat) (v : Value) (xs : List Nat) (X : List (Nat × Obj)) (wr : World) : Prop :=
  ∃ vp vf, Stm wr g gs vp vf room cs fr ∧ Mod S w wr ∧ New S w (stB g gs vp vf cs) ∧ Lst wr 3 1 v xs.length (nats xs) ∧ (∀ k, v.ownBlock = some k → w.heap.size ≤ k ∧ k ∉ stB g gs vp vf cs) ∧ ∀ x ∈ X, wr.heap[x.1]? = some x.2 ∧ x.1 ∉ stB g gs vp vf cs ∧ v.ownBlock ≠ some x.1

theorem Dl.slice {w : World} {S : List Nat} {g gs room : Nat} {cs : List (Nat × Ce)} {fr : List Nat} {v : Value} {xs : List Nat} {X : List (Nat × Obj)} {wr : World} (h : Dl w S g gs room cs fr v xs X wr) : ∃ a c, v = .slice a xs.length c := by
  obtain ⟨_, _, _, _, _, h, _, _⟩ := h
  exact lst_slice h

theorem Dl.turned {w : World} {S : List Nat} {g gs room : Nat} {cs : List (Nat × Ce)} {fr : List Nat} {v : Value} {xs : List Nat} {X : List (Nat × Obj)} {wr : World} (h : Dl w S g gs room cs fr v xs X wr) : STurn w g gs S room cs fr wr := by
  obtain ⟨vp, vf, h1, h2, h3, _⟩ := h
  exact ⟨vp, vf, h1, h2, h3⟩

theorem Dl.c01 {w : World} {S : List Nat} {g gs room : Nat} {cs : List (Nat × Ce)} {fr : List Nat} {v : Value} {xs : List Nat} {X : List (Nat × Obj)} {wr : World} (h : Dl w S g gs room cs fr v xs X wr) : wr.cell? ⟨g, 0, none⟩ = some (.pointer (some ⟨g, 0, none⟩)) ∧ wr.cell? ⟨g, 1, none⟩ = some (.pointer (some ⟨gs, 0, none⟩)) := by
  obtain ⟨vp, vf, h1, _⟩ := h
  exact ⟨h1.c0, h1.c1⟩

theorem Dl.grow {w : World} {S : List Nat} {g gs room : Nat} {cs : List (Nat × Ce)} {fr : List Nat} {v : Value} {xs : List Nat} {X : List (Nat × Obj)} {wr w' : World} (h : Dl w S g gs room cs fr v xs X wr) (hb : Below wr.heap.size wr w') : Dl w S g gs room cs fr v xs X w' := by
  obtain ⟨vp, vf, h1, h2, h3, h4, h5, h6⟩ := h
  exact ⟨vp, vf, h1.grow hb, h2.trans' (Mod.of_below hb _), h3, lst_grow h4 hb, h5, fun x hx => ⟨(hb.block x.1 (Array.getElem?_eq_some_iff.1 (h6 x hx).1).1).trans (h6 x hx).1, (h6 x hx).2⟩⟩

theorem Dl.use {w : World} {S : List Nat} {g gs room : Nat} {cs cs' : List (Nat × Ce)} {fr fr' : List Nat} {v : Value} {xs : List Nat} {X : List (Nat × Obj)} {wr : World} {f : FuncId} {args : Array Value} {E : Ending} (h : Dl w S g gs room cs fr v xs X wr) (hc : ∀ vp vf, Stm wr g gs vp vf room cs fr → Calls Tryz.prog f args wr fun e w' => e = E ∧ STurn wr g gs (stB g gs vp vf cs) room cs' fr' w') : Calls Tryz.prog f args wr fun e w' => e = E ∧ Dl w S g gs room cs' fr' v xs X w' := by
  obtain ⟨vp, vf, h1, h2, h3, h4, h5, h6⟩ := h
  refine (hc vp vf h1).mono ?_
  rintro e w' ⟨rfl, t⟩
  refine ⟨rfl, ?_⟩
  obtain ⟨vp', vf', k1, k2, k3⟩ := t
  refine ⟨vp', vf', k1, h2.trans h3 k2, h3.trans h2.size k3, lst_mod h4 k2 (fun k hk => (h5 k hk).2), fun k hk => ⟨(h5 k hk).1, fun e => ?_⟩, fun x hx => ?_⟩
  · rcases k3 k e with e | e
    · exact (h5 k hk).2 e
    · have := lst_lt h4 k hk
      omega
  · obtain ⟨q1, q2, q3⟩ := h6 x hx
    have hlt := (Array.getElem?_eq_some_iff.1 q1).1
    refine ⟨(k2.block x.1 hlt q2).trans q1, fun e => ?_, q3⟩
    rcases k3 x.1 e with e | e
    · exact q2 e
    · omega

theorem Dl.push {w : World} {S : List Nat} {g gs room : Nat} {cs : List (Nat × Ce)} {fr : List Nat} {v v' : Value} {xs : List Nat} {X : List (Nat × Obj)} {wr w' : World} {x : Nat} (h : Dl w S g gs room cs fr v xs X wr) (hl : Lst w' 3 1 v' (xs.length + 1) (nats xs ++ [.int .i64 (x : Int)])) (hg : wr.grownBy w' v.ownBlock) (hw : WhereL wr v v') : Dl w S g gs room cs fr v' (xs ++ [x]) X w' := by
  obtain ⟨vp, vf, h1, h2, h3, h4, h5, h6⟩ := h
  have m : Mod v.ownBlock.toList wr w' := Mod.of_grown hg (fun k hk => by simp [hk])
  have hn : ∀ k ∈ v.ownBlock.toList, w.heap.size ≤ k ∧ k ∉ stB g gs vp vf cs := fun k hk => h5 k (by simpa using hk)
  refine ⟨vp, vf, h1.mod m (fun k hk e => (hn k e).2 hk), ⟨m.os.trans h2.os, m.tape.trans h2.tape, m.output.trans h2.output, Nat.le_trans h2.size m.size, fun k hk hs => ?_⟩, h3, ?_, fun k hk => ?_, fun x hx => ?_⟩
  · rw [m.block k (Nat.lt_of_lt_of_le hk h2.size) (fun e => by have := (hn k e).1; omega)]
    exact h2.block k hk hs
  · rw [nats_snoc, List.length_append, List.length_singleton]
    exact hl
  · rcases hw with e | ⟨q, e, hq⟩
    · rw [e] at hk
      exact h5 k hk
    · rw [e] at hk
      injection hk with hk
      subst hk
      refine ⟨Nat.le_trans h2.size hq, fun e2 => ?_⟩
      have := h1.lts q e2
      omega
  · obtain ⟨q1, q2, q3⟩ := h6 x hx
    have hlt := (Array.getElem?_eq_some_iff.1 q1).1
    refine ⟨(m.block x.1 hlt (fun e => q3 (by simpa using e))).trans q1, q2, fun e2 => ?_⟩
    rcases hw with e | ⟨q, e, hq⟩
    · rw [e] at e2
      exact q3 e2
    · rw [e] at e2
      injection e2 with e2
      omega

theorem Dl.pop {w : World} {S : List Nat} {g gs room : Nat} {cs : List (Nat × Ce)} {fr : List Nat} {xs : List Nat} {X : List (Nat × Obj)} {x b c : Nat} {wr : World} (h : Dl w S g gs room cs fr (.slice (some ⟨b, 0, none⟩) (xs ++ [x]).length c) (xs ++ [x]) X wr) : Dl w S g gs room cs fr (.slice (some ⟨b, 0, none⟩) xs.length c) xs X wr := by
  obtain ⟨vp, vf, h1, h2, h3, h4, h5, h6⟩ := h
  refine ⟨vp, vf, h1, h2, h3, ?_, fun k hk => h5 k hk, fun x hx => h6 x hx⟩
  have := lst_cut (m := xs.length) h4 (by simp)
  rw [Nat.mul_one, nats_take, List.take_left] at this
  exact this

theorem Dl.last {w : World} {S : List Nat} {g gs room : Nat} {cs : List (Nat × Ce)} {fr : List Nat} {xs : List Nat} {X : List (Nat × Obj)} {x : Nat} {v : Value} {wr : World} (h : Dl w S g gs room cs fr v (xs ++ [x]) X wr) : ∃ b c, v = .slice (some ⟨b, 0, none⟩) (xs.length + 1) c ∧ xs.length + 1 ≤ c ∧ wr.cell? ⟨b, xs.length, none⟩ = some (.int .i64 (x : Int)) := by
  obtain ⟨vp, vf, h1, h2, h3, h4, h5, _⟩ := h
  rw [List.length_append, List.length_singleton] at h4
  obtain ⟨b, c, rfl, hc⟩ := lst_pos h4 (by omega)
  refine ⟨b, c, rfl, hc, ?_⟩
  rw [lst_cell h4 _ (by omega), nats_snoc, List.getElem?_append_right (by rw [nats_length]; omega), nats_length, Nat.sub_self]
  rfl

theorem Dl.held {w : World} {S : List Nat} {g gs room : Nat} {cs : List (Nat × Ce)} {fr : List Nat} {v : Value} {xs : List Nat} {X : List (Nat × Obj)} {wr : World} {b : Nat} {t : TypeId} {cells : Array Value} (h : Dl w S g gs room cs fr v xs X wr) (hx : (b, Obj.cells cells t (0, 0)) ∈ X) : Blk wr b t cells := by
  obtain ⟨_, _, _, _, _, _, _, h6⟩ := h
  exact (h6 _ hx).1

theorem Dl.less {w : World} {S : List Nat} {g gs room : Nat} {cs : List (Nat × Ce)} {fr : List Nat} {v : Value} {xs : List Nat} {X Y : List (Nat × Obj)} {wr : World} (h : Dl w S g gs room cs fr v xs X wr) (hy : ∀ y ∈ Y, y ∈ X) : Dl w S g gs room cs fr v xs Y wr := by
  obtain ⟨vp, vf, h1, h2, h3, h4, h5, h6⟩ := h
  exact ⟨vp, vf, h1, h2, h3, h4, h5, fun x hx => h6 x (hy x hx)⟩

theorem Dl.hold {w : World} {S : List Nat} {g gs room : Nat} {cs : List (Nat × Ce)} {fr : List Nat} {v : Value} {xs : List Nat} {X : List (Nat × Obj)} {wr w' : World} {b : Nat} {o : Obj} (h : Dl w S g gs room cs fr v xs X wr) (hb : Below wr.heap.size wr w') (hk : wr.heap.size ≤ b) (hB : w'.heap[b]? = some o) : Dl w S g gs room cs fr v xs ((b, o) :: X) w' := by
  have hg := h.grow hb
  obtain ⟨vp0, vf0, h1, _, _, h4, _, _⟩ := h
  obtain ⟨vp, vf, g1, g2, g3, g4, g5, g6⟩ := hg
  have e1 : vp = vp0 := Option.some.inj (g1.sl.c2.symm.trans (h1.grow hb).sl.c2)
  have e2 : vf = vf0 := Option.some.inj (g1.sl.c3.symm.trans (h1.grow hb).sl.c3)
  subst e1 e2
  refine ⟨vp, vf, g1, g2, g3, g4, g5, fun x hx => ?_⟩
  rcases List.mem_cons.1 hx with rfl | hx
  · exact ⟨hB, fun e => by have := h1.lts _ e; simp only at this; omega, fun e => by have := lst_lt h4 _ e; simp only at this; omega⟩
  · exact g6 x hx

set_option maxHeartbeats 1000000 in
theorem letGo_any {w : World} {S : List Nat} {g gs room : Nat} {cs : List (Nat × Ce)} {fr : List Nat} {v : Value} {xs : List Nat} {X : List (Nat × Obj)} {wr : World} (h : Dl w S g gs room cs fr v xs X wr) (hz : Wz cs) (l : Nat) (hl : l = 0 ∨ 1 ≤ l ∧ 0 < cc cs (l - 1) ∧ 1 ≤ (ce cs (l - 1)).ab ∧ (ce cs (l - 1)).ab ≤ 1073741824) (hx : xs.length ≤ 1048576) : Calls Tryz.prog 75 #[.pointer (some ⟨g, 0, none⟩), v, .int .i64 (l : Int)] wr fun e w' => ∃ a q c, e = .returned (.slice a q c) ∧ q = (xs ++ ne0 l).length ∧ Dl w S g gs room (dnA cs l) fr (.slice a q c) (xs ++ ne0 l) X w' := by
  have HD := hidden h
  obtain ⟨a, c, rfl⟩ := h.slice
  by_cases h0 : l = 0
  · subst h0
    clear hl hz hx h
    go_enter Tryz.func75, Tryz.ntmps75
    go_wp2
    go_ret
    have e : xs ++ ne0 0 = xs := by simp [ne0]
    rw [e]
    exact ⟨_, _, _, rfl, rfl, HD.out⟩
  · have hb0 : ((l : Int) == 0) = false := by simp; omega
    have HC : Hid (Calls Tryz.prog 98 #[.pointer (some ⟨g, 0, none⟩), .int .i64 (l : Int), .int .i64 (-1)] wr fun e w' => e = .returned (.tuple #[]) ∧ Dl w S g gs room (dnA cs l) fr (.slice a xs.length c) xs X w') := h.use (fun vp vf s => dnS (STurn.refl (Below.refl _ _) s) hz l hl)
    have HE : Hid (xs ++ ne0 l = xs ++ [l]) := by simp [ne0, h0, Hid]
    rw [HE.out]
    have HX := hidden hx
    clear hl hz hx h h0 HE
    go_enter Tryz.func75, Tryz.ntmps75
    go_wp2_with (first
      | (go_at_call 98; refine HC.out.mono ?_; rintro e w1 ⟨rfl, d1⟩; have HD1 := hidden d1; clear d1)
      | (at_builtin; have HD2 := hidden (HD1.out.grow (grow_alloc w1 (.cells #[.int .i64 (l : Int)] 3))); refine wpList_appL _ rfl _ _ _ rfl 3 1 8 Tryz.underlying86 info_nat (by omega) _ xs.length (nats xs) rfl (by obtain ⟨_, _, _, _, _, q, _, _⟩ := HD2.out; exact q) w1.heap.size [Value.int .i64 (l : Int)] rfl (Blk.new _ _ _) rfl (by intro u hu; simp at hu; subst hu; rfl) (by have := HX.out; simp only [maxLen]; omega) (by have := HX.out; omega) ?_; intro v' w3 h3 g3 wh; obtain ⟨a2, c2, rfl⟩ := lst_slice h3))
    go_ret
    exact ⟨_, _, _, rfl, by simp, HD2.out.push h3 g3 wh⟩

end Go.Proofs.YtnnmfgnommbmkaaGreatDoor

namespace Go.Proofs.YtnnmfgnommbmkaaGreatDoor
set_option maxRecDepth 20000
open Go.RowKit

theorem tot_one {w : World} {g gs : Nat} {vp vf vp' vf' : Value} {room : Nat} {cs cs' : List (Nat × Ce)} {fr fr' : List Nat} (h : Stm w g gs vp vf room cs fr) (k : Stm w g gs vp' vf' room cs' fr') : tot cs = tot cs' := by
  have e1 : vp = vp' := Option.some.inj (h.sl.c2.symm.trans k.sl.c2)
  subst e1
  have hp := h.sl.pls
  have kp := k.sl.pls
  obtain ⟨a1, c1, q1⟩ := lst_slice hp
  obtain ⟨a2, c2, q2⟩ := lst_slice kp
  rw [q1] at q2
  injection q2 with _ e2 _
  have hl : cs.length = cs'.length := by simpa using e2
  have hc : ∀ i, i < cs.length → cc cs i = cc cs' i := fun i hi => by
    obtain ⟨b, c, e, _⟩ := lst_pos hp (by simp; omega)
    have hp' := hp
    have kp' := kp
    rw [e] at hp'
    have e3 : vp = .slice (some ⟨b, 0, none⟩) (cs'.map pl).length c := by rw [e]; simp [hl]
    rw [e3] at kp'
    have hm : i * (71 + 1) < (cs.map pl).length * (71 + 1) := Nat.mul_lt_mul_of_pos_right (by simpa using hi) (by omega)
    have c1 := lst_cell hp' (i * (71 + 1)) hm
    have c2 := lst_cell kp' (i * (71 + 1)) (by simpa [hl] using hm)
    rw [flatS_count h.sl.wid i (by simpa using hi)] at c1
    rw [flatS_count k.sl.wid i (by simp; omega)] at c2
    rw [c1] at c2
    injection c2 with c2
    injection c2 with _ c2
    rw [cnt_pl, cnt_pl] at c2
    omega
  unfold tot
  congr 1
  apply List.ext_getElem (by simpa using hl)
  intro i h1 h2
  have := hc i (by simpa using h1)
  have h1' : i < cs.length := by simpa using h1
  have h2' : i < cs'.length := by simpa using h2
  simpa [cc, h1', h2'] using this

theorem tot_fun (g gs room : Nat) : ∃ mea : World → Nat, ∀ w vp vf cs fr, Stm w g gs vp vf room cs fr → mea w = tot cs := by
  have h : ∀ w : World, ∃ m : Nat, ∀ vp vf cs fr, Stm w g gs vp vf room cs fr → m = tot cs := fun w => by
    by_cases e : ∃ vp vf cs fr, Stm w g gs vp vf room cs fr
    · obtain ⟨vp, vf, cs, fr, h⟩ := e
      exact ⟨tot cs, fun vp' vf' cs' fr' k => tot_one h k⟩
    · exact ⟨0, fun vp vf cs fr k => absurd ⟨vp, vf, cs, fr, k⟩ e⟩
  exact ⟨fun w => Classical.choose (h w), fun w => Classical.choose_spec (h w)⟩

theorem drop_more {w : World} {g gs : Nat} {vp vf : Value} {room : Nat} {cs : List (Nat × Ce)} {fr : List Nat} (s : Stm w g gs vp vf room cs fr) (i : Nat) (hc : 1 < cc cs i) : Calls Tryz.prog 74 #[.pointer (some ⟨gs, 0, none⟩), .int .i64 ((i + 1 : Nat) : Int)] w fun e w' => e = .returned (.tuple #[.bool false, .int .i64 0]) ∧ STurn w g gs (stB g gs vp vf cs) room (lessC cs i) fr w' := by
  refine (drop_moreC gs vp vf room _ fr _ i w s.sl rfl (by rw [cnt_pl]; omega) (by rw [cnt_pl]; exact hc)).mono ?_
  rintro e w' ⟨rfl, t⟩
  have hl := cc_lt (cs := cs) (i := i) (by omega)
  rw [cnt_pl, thg_pl cs i hl, map_set] at t
  refine ⟨rfl, s.turn' (Below.refl _ _) t (fun j => .inr ⟨j, ?_⟩)⟩
  have e : ce (lessC cs i) j = ce cs j := by
    unfold lessC
    rw [ce_set cs i j _ hl]
    split
    · next e => rw [e]
    · rfl
  rw [e]
  exact ⟨rfl, rfl⟩

theorem drop_last {w : World} {g gs : Nat} {vp vf : Value} {room : Nat} {cs : List (Nat × Ce)} {fr : List Nat} (s : Stm w g gs vp vf room cs fr) (i : Nat) (hc : cc cs i = 1) : Calls Tryz.prog 74 #[.pointer (some ⟨gs, 0, none⟩), .int .i64 ((i + 1 : Nat) : Int)] w fun e w' => e = .returned (.tuple #[.bool true, .int .i64 0]) ∧ STurn w g gs (stB g gs vp vf cs) room (cs.set i (0, zc)) (fr ++ [i + 1]) w' := by
  refine (drop_lastC gs vp vf room _ fr _ i w s.sl rfl (by rw [cnt_pl]; omega) (by rw [cnt_pl]; exact hc)).mono ?_
  rintro e w' ⟨rfl, t⟩
  have hl := cc_lt (cs := cs) (i := i) (by omega)
  rw [← cz_zc, map_set] at t
  refine ⟨rfl, s.turn' (Below.refl _ _) t (fun j => ?_)⟩
  rw [ce_set cs i j _ hl]
  split
  · exact .inl ⟨rfl, rfl⟩
  · exact .inr ⟨j, rfl, rfl⟩

set_option maxHeartbeats 400000 in
theorem dropS_miss {w : World} {g gs : Nat} {vp vf : Value} {room : Nat} {cs : List (Nat × Ce)} {fr pend : List Nat} (s : Stm w g gs vp vf room cs fr) (hw : Wf cs pend) (h : Int) (hm : cot cs h ≤ (cat cs h).ab) : Calls Tryz.prog 43 #[.pointer (some ⟨g, 0, none⟩), .int .i64 h] w fun e w' => e = .returned (.tuple #[.int .i64 0, .int .i64 7]) ∧ Below w.heap.size w w' := by
  have c0 := s.c0
  have HH := hidden (held_any (vw_ok s hw) h)
  rw [show cot cs h - (cat cs h).ab = 0 by omega] at HH
  clear s hw hm
  go_enter Tryz.func43, Tryz.ntmps43
  go_wp2_with (first
    | (go_at_call 46; refine (madeS_ok g _ c0).mono ?_; rintro e w' ⟨rfl, hx⟩; rw [hx]; clear hx w')
    | (go_at_call 73; refine HH.out.mono ?_; rintro e w1 ⟨rfl, b1⟩))
  go_ret2
  exact ⟨rfl, b1⟩

theorem ne0_rev (h : Nat) : (ne0 h).reverse = ne0 h := by
  unfold ne0
  split <;> rfl

theorem lst_one (w : World) (b : Nat) (x : Nat) (h : Blk w b 3 #[.int .i64 (x : Int)]) : Lst w 3 1 (.slice (some ⟨b, 0, none⟩) 1 1) 1 (nats [x]) := ⟨by simp [nats], .inr ⟨b, 1, _, rfl, Nat.zero_le _, h, by omega, by decide, by simp, by simp [nats]⟩⟩

set_option maxHeartbeats 4000000 in
theorem dropS_ok {w : World} {g gs : Nat} {vp vf : Value} {room : Nat} {cs : List (Nat × Ce)} {fr : List Nat} (s : Stm w g gs vp vf room cs fr) (hw : Wf cs []) (i : Nat) (ho : 0 < own cs [] i) : Calls Tryz.prog 43 #[.pointer (some ⟨g, 0, none⟩), .int .i64 ((i + 1 : Nat) : Int)] w fun e w' => ∃ cs' fr' n, Run cs fr [i + 1] cs' fr' n ∧ e = .returned (.tuple #[.int .i64 (n : Int), .int .i64 0]) ∧ STurn w g gs (stB g gs vp vf cs) room cs' fr' w' := by
  have c0 := s.c0
  have hcat : cat cs (((i + 1 : Nat) : Int)) = ce cs i := by rw [cat_nat]; rfl
  have hcot : cot cs (((i + 1 : Nat) : Int)) = cc cs i := by unfold cot; rw [if_pos (by omega), show ((i + 1 : Nat) : Int) - 1 = (i : Int) by omega, Int.toNat_natCast]
  have HH := hidden (held_any (vw_ok s hw) ((i + 1 : Nat) : Int))
  rw [hcat, hcot] at HH
  obtain ⟨q, hq⟩ : ∃ q, q = cc cs i - (ce cs i).ab := ⟨_, rfl⟩
  rw [← hq] at HH
  have hq0 : ((q : Int) == 0) = false := by
    have h1 := hw.own i
    rw [List.count_nil] at h1
    simp
    omega
  have HW1 := hidden (hw.less i ho)
  obtain ⟨mea, hmea⟩ := tot_fun g gs room
  have HME := hidden hmea
  have HFL : Hid (∀ w' vp' vf' cs' fr', Stm w' g gs vp' vf' room cs' fr' → fr'.length ≤ 65536 ∧ noc cs' ≤ 65536 ∧ ∀ j, cc cs' j ≤ 1073741824) := fun w' vp' vf' cs' fr' t => by
    have h1 := t.sl.inv.frlen
    have h2 := t.sl.inv.len
    have h3 := t.sl.inv.r2
    have h4 := t.sl.inv.sum
    refine ⟨by omega, ?_, fun j => ?_⟩
    · show occs _ ≤ _
      omega
    · have := t.sl.inv.most j
      rwa [cnt_pl] at this
  have HS := hidden s
  obtain ⟨h, hh⟩ : ∃ h : Int, h = ((i + 1 : Nat) : Int) := ⟨_, rfl⟩
  rw [← hh] at HH
  rw [← hh]
  have HHH := hidden hh
  obtain ⟨S, hS⟩ : ∃ S, S = stB g gs vp vf cs := ⟨_, rfl⟩
  rw [← hS]
  have HSS := hidden hS
  clear s hw ho hcat hcot hq hmea hh hS
  go_enter Tryz.func43, Tryz.ntmps43
  go_wp2_with (first
    | (go_at_call 46; refine (madeS_ok g _ c0).mono ?_; rintro e w' ⟨rfl, hx⟩; rw [hx]; clear hx w')
    | (go_at_call 73; refine HH.out.mono ?_; rintro e w1 ⟨rfl, b1⟩; have Hb1 := hidden b1; clear b1))
  have HD0 : Hid (Dl w S g gs room cs fr (.slice (some ⟨w1.heap.size, 0, none⟩) 1 1) [i + 1] [] (w1.alloc (.cells #[.int .i64 h] 3))) := by
    have b2 := grow_trans Hb1.out (grow_alloc w1 (.cells #[.int .i64 h] 3))
    rw [HSS.out]
    refine ⟨vp, vf, HS.out.grow b2, Mod.of_below b2 _, fun _ hk => .inl hk, ?_, fun k hk => ?_, fun x hx => by cases hx⟩
    · refine lst_one _ _ (i + 1) ?_
      rw [← HHH.out]
      exact Blk.new _ _ _
    · simp only [Value.ownBlock, Option.some.injEq] at hk
      subst hk
      refine ⟨Hb1.out.size, fun e => ?_⟩
      have := (HS.out.grow Hb1.out).lts _ e
      omega
  have HI0 : Hid (Wf cs [i + 1] ∧ 0 + noc cs ≤ 65536 ∧ 1 ≤ fr.length + 1 ∧ ∀ cs' fr' m, Run cs fr [i + 1] cs' fr' m → Run cs fr [i + 1] cs' fr' (0 + m)) := ⟨HW1.out, by have := (HFL.out _ _ _ _ _ HS.out).2.1; omega, by omega, fun _ _ m h => by rwa [Nat.zero_add]⟩
  clear HS HW1 HHH Hb1
  generalize w1.alloc (.cells #[.int .i64 h] 3) = w2 at *
  generalize w1.heap.size = b0 at *
  go_loopw [1, 6, 7] (fun hv fv nv wr => ∃ (h1 : Int) (n : Nat) (cs1 : List (Nat × Ce)) (fr1 st : List Nat) (a : Option Addr) (c : Nat), hv = .int .i64 h1 ∧ fv = .int .i64 (n : Int) ∧ nv = .slice a st.length c ∧ Hid (Dl w S g gs room cs1 fr1 (.slice a st.length c) st.reverse [] wr) ∧ Hid (Wf cs1 st ∧ n + noc cs1 ≤ 65536 ∧ st.length ≤ fr1.length + 1 ∧ ∀ cs' fr' m, Run cs1 fr1 st cs' fr' m → Run cs fr [i + 1] cs' fr' (n + m))) (fun _ _ _ wr => mea wr)
  case atStart => exact ⟨h, 0, cs, fr, [i + 1], _, _, rfl, rfl, rfl, HD0, HI0⟩
  case round =>
    clear HD0 HI0
    obtain ⟨h1, n, cs1, fr1, st, a, c, rfl, rfl, rfl, hD, hI⟩ := hrel
    cases st with
    | nil =>
      have HRUN := hidden (hI.out.2.2.2 _ _ _ (Run.done cs1 fr1))
      have HT := hidden hD.out.turned
      clear hD hI
      go_wp2
      go_ret2
      exact ⟨cs1, fr1, n, HRUN.out, rfl, HT.out⟩
    | cons hj st1 =>
      obtain ⟨hW, hN, hLn, hR⟩ := hI.out
      obtain ⟨j, rfl⟩ : ∃ j, hj = j + 1 := ⟨hj - 1, by have := hW.pos hj (by simp); omega⟩
      have hcj : 1 ≤ cc cs1 j := by
        have := hW.le j
        rw [List.count_cons_self] at this
        omega
      have hD1 := hD.out
      rw [List.reverse_cons] at hD1
      obtain ⟨b, c', hv, hcap, hcell⟩ := hD1.last
      rw [List.length_reverse] at hv hcap hcell
      injection hv with e1 e2 e3
      subst e1
      subst e3
      have HDP : Hid (Dl w S g gs room cs1 fr1 (.slice (some ⟨b, 0, none⟩) st1.length c) st1.reverse [] wr) := by
        have h0 := hD1
        rw [show ((j + 1) :: st1).length = (st1.reverse ++ [j + 1]).length by simp] at h0
        have h1 := h0.pop
        rw [List.length_reverse] at h1
        exact h1
      have hFL : fr1.length ≤ 65536 := by
        obtain ⟨vp1, vf1, q1, _⟩ := hD.out
        exact (HFL.out _ _ _ _ _ q1).1
      have HNj := hidden (hW.tr j (by omega))
      have HOK := hidden (hW.ok j)
      have HAT : Hid (∀ w', Below wr.heap.size wr w' → Calls Tryz.prog 48 #[.pointer (some ⟨g, 0, none⟩), .int .i64 ((j + 1 : Nat) : Int)] w' fun e w'' => e = .returned (.agg (cz (ce cs1 j)).toArray) ∧ Below w'.heap.size w' w'') := fun w' hb => by
        obtain ⟨vp1, vf1, q1, _⟩ := hD.out
        have := (vw_ok q1 hW).atv w' ((j + 1 : Nat) : Int) hb
        rwa [cat_nat] at this
      have hl1 : st1.length ≤ 65537 := by simp only [List.length_cons] at hLn; omega
      have HW1 := hidden hW
      have HRR := hidden hR
      have HNN := hidden hN
      have HLL := hidden hLn
      have HL1 := hidden hl1
      have HME0 : Hid (mea wr = tot cs1) := by
        obtain ⟨vp1, vf1, q1, _⟩ := hD.out
        exact HME.out _ _ _ _ _ q1
      obtain ⟨y, hy⟩ : ∃ y : Int, y = ((j + 1 : Nat) : Int) := ⟨_, rfl⟩
      rw [← hy] at hcell HAT
      have HY := hidden hy
      obtain ⟨k, hk⟩ : ∃ k, k = ce cs1 j := ⟨_, rfl⟩
      rw [← hk] at HAT HOK
      have HKE := hidden hk
      obtain ⟨m, hm⟩ : ∃ m, m = st1.length := ⟨_, rfl⟩
      rw [← hm] at hcap hcell HDP hl1
      have HM := hidden hm
      have i0 : (0 : Int) ≤ (m : Int) := by omega
      have i1 : (m : Int) < (m : Int) + 1 := by omega
      have i1' : (m : Int) < ((m + 1 : Nat) : Int) := by omega
      have i2 : (m : Int) ≤ (c : Int) := by omega
      have i3 : (0 : Int) < ((m + 1 : Nat) : Int) := by omega
      have hwm : wrap64 (m : Int) = (m : Int) := Go.IntWalk.wrap64_in _ (by omega)
      rw [List.length_cons, ← hm]
      have hnb : n ≤ 65536 := by omega
      have hwn : wrap64 ((n : Int) + 1) = ((n + 1 : Nat) : Int) := by rw [Go.IntWalk.wrap64_in _ (by omega)]; rfl
      have HFR := hidden hFL
      clear hD hI hW hN hLn hR hD1 hy hk hm e2 hl1 hFL hnb
      go_wp2_with fail
      go_quiet (fail)
      have HB2 : Hid (Below wr.heap.size wr (wr.drewN nq)) := below_drewN (Below.refl _ _) nq
      generalize wr.drewN nq = w2' at *
      rcases Nat.lt_or_eq_of_le hcj with hgt | heq
      · have HC := hidden hgt
        clear hcj hgt
        go_wp2_with (first
          | (go_at_call 48; refine (HAT.out _ HB2.out).mono ?_; rintro e w3 ⟨rfl, b3⟩; have HB3 := hidden b3; clear b3)
          | ((with_reducible refine at_ald 9 ?_); refine wpList_al _ rfl _ rfl _ zero_thC ?_; intro w4 b9 hg9 hl9 B9 b4; have HB9 := hidden B9; have Hg9 := hidden hg9; have HB4 := hidden b4; clear hg9 hl9 B9 b4)
          | ((with_reducible refine at_st 9 ?_); refine wpList_sto _ rfl _ _ _ rfl b9 _ (cz k).toArray rfl rfl HB9.out (xszC _ (cz_th HOK.out)) (xzsC _ (cz_th HOK.out)) (all_oneCell_toArray (cz_one HOK.out)) ?_; intro w5 B5 r5; have hq5 := below_row (grow_trans (grow_trans HB2.out HB3.out) HB4.out) r5 (by have := Hg9.out; have := HB3.out.size; have := HB2.out.size; omega); have HD5 := hidden (HDP.out.hold hq5 (by have := Hg9.out; have := HB3.out.size; have := HB2.out.size; omega) B5); have c1 := HD5.out.c01.2; clear hq5 B5 r5)
          | (go_at_call 74; rw [HY.out]; refine (HD5.out.use (fun vp vf q => drop_more q j HC.out)).mono ?_; rintro e w6 ⟨rfl, d6⟩; have HD6 := hidden d6; clear d6))
        have hst := step_less HW1.out HC.out
        have htt := tot_less cs1 j (by have := HC.out; omega)
        have hmm : mea w6 = tot (lessC cs1 j) := by
          obtain ⟨vp1, vf1, q1, _⟩ := HD6.out
          exact HME.out _ _ _ _ _ q1
        have hdl : Dl w S g gs room (lessC cs1 j) fr1 (.slice (some ⟨b, 0, none⟩) st1.length c) st1.reverse [] w6 := by
          have := HD6.out.less (Y := []) (fun _ h => by cases h)
          rw [HM.out] at this
          exact this
        refine ⟨⟨_, n, lessC cs1 j, fr1, st1, some ⟨b, 0, none⟩, c, rfl, rfl, by rw [HM.out], hdl, hst.wf, ?_, ?_, fun cs' fr' q hq => HRR.out _ _ _ (Run.keep HC.out hq)⟩, ?_⟩
        · have := hst.noc
          have := HNN.out
          omega
        · have := HLL.out
          simp only [List.length_cons] at this
          omega
        · rw [hmm, HME0.out]
          omega
      · have HC : Hid (cc cs1 j = 1) := heq.symm
        clear hcj heq
        have HZ1 : Hid (Wz (cs1.set j (0, zc))) := HW1.out.z.set j 0 zc zc_ok (fun _ => rfl)
        have hsides := Wf.sides HW1.out.ab HW1.out.le j (by have := HC.out; omega)
        obtain ⟨nl, nr⟩ := HNj.out.side_ne rfl
        rw [← HKE.out] at hsides nl nr
        have hside : ∀ q, (q = k.l ∨ q = k.r) → q = 0 ∨ 1 ≤ q ∧ 0 < cc (cs1.set j (0, zc)) (q - 1) ∧ 1 ≤ (ce (cs1.set j (0, zc)) (q - 1)).ab ∧ (ce (cs1.set j (0, zc)) (q - 1)).ab ≤ 1073741824 := fun q hq => by
          by_cases e : q = 0
          · exact .inl e
          · have h1 := hsides q hq e
            have hne : q - 1 ≠ j := fun e2 => by
              rcases hq with e3 | e3
              · exact nl (by omega)
              · exact nr (by omega)
            have hjl := cc_lt (cs := cs1) (i := j) (by have := HC.out; omega)
            have h2 := ns_pos cs1 (q - 1) j (by have := HC.out; omega) (by rw [← HKE.out]; exact hq.elim (fun e => .inl (by omega)) (fun e => .inr (by omega)))
            have h3 := HW1.out.ab (q - 1)
            have h4 := HW1.out.le (q - 1)
            have h5 : cc cs1 (q - 1) ≤ 1073741824 := by
              obtain ⟨vp1, vf1, q1, _⟩ := HDP.out
              exact (HFL.out _ _ _ _ _ q1).2.2 _
            refine .inr ⟨by omega, ?_⟩
            rw [cc_set cs1 j _ _ hjl, ce_set cs1 j _ _ hjl, if_neg hne, if_neg hne]
            omega
        have a1 := dnA_of (cs1.set j (0, zc)) k.r
        have HZ2 : Hid (Wz (dnA (cs1.set j (0, zc)) k.r)) := by
          rcases hside k.r (.inr rfl) with e | ⟨e1, e2, e3, e4⟩
          · have : dnA (cs1.set j (0, zc)) k.r = cs1.set j (0, zc) := by unfold dnA; rw [if_pos e]
            rw [this]
            exact HZ1
          · have : dnA (cs1.set j (0, zc)) k.r = setA (cs1.set j (0, zc)) k.r ((ce (cs1.set j (0, zc)) (k.r - 1)).ab - 1) := by unfold dnA; rw [if_neg (by omega)]
            rw [this]
            exact HZ1.out.setA _ _ e2
        have HSR := hidden (hside k.r (.inr rfl))
        have HSL : Hid (k.l = 0 ∨ 1 ≤ k.l ∧ 0 < cc (dnA (cs1.set j (0, zc)) k.r) (k.l - 1) ∧ 1 ≤ (ce (dnA (cs1.set j (0, zc)) k.r) (k.l - 1)).ab ∧ (ce (dnA (cs1.set j (0, zc)) k.r) (k.l - 1)).ab ≤ 1073741824) := by
          rcases hside k.l (.inl rfl) with e | ⟨e1, e2, e3, e4⟩
          · exact .inl e
          · have hne : k.l ≠ k.r := by
              rcases HNj.out with hh | hh
              · have := hh.l
                rw [← HKE.out] at this
                omega
              · rw [← HKE.out] at hh
                exact sides_ne hh (by omega)
            refine .inr ⟨e1, by rw [a1.cc]; exact e2, ?_⟩
            have hb : k.r - 1 < (cs1.set j (0, zc)).length ∨ k.r = 0 := by
              rcases hside k.r (.inr rfl) with e | ⟨_, e, _⟩
              · exact .inr e
              · exact .inl (cc_lt e)
            rw [dnA_ab _ _ _ hb, if_neg (by omega)]
            exact ⟨by omega, by omega⟩
        have HKL : Hid ((cz k)[69]? = some (.int .i64 (k.l : Int)) ∧ (cz k)[70]? = some (.int .i64 (k.r : Int))) := ⟨(cz_at k HOK.out).2.2.2.2.2.1, (cz_at k HOK.out).2.2.2.2.2.2⟩
        have HLR : Hid (∀ x, (ne0 x).length ≤ 1) := fun x => by unfold ne0; split <;> simp
        clear hsides nl nr hside a1
        go_wp2_with (first
          | (go_at_call 48; refine (HAT.out _ HB2.out).mono ?_; rintro e w3 ⟨rfl, b3⟩; have HB3 := hidden b3; clear b3)
          | ((with_reducible refine at_ald 9 ?_); refine wpList_al _ rfl _ rfl _ zero_thC ?_; intro w4 b9 hg9 hl9 B9 b4; have HB9 := hidden B9; have Hg9 := hidden hg9; have HB4 := hidden b4; clear hg9 hl9 B9 b4)
          | ((with_reducible refine at_st 9 ?_); refine wpList_sto _ rfl _ _ _ rfl b9 _ (cz k).toArray rfl rfl HB9.out (xszC _ (cz_th HOK.out)) (xzsC _ (cz_th HOK.out)) (all_oneCell_toArray (cz_one HOK.out)) ?_; intro w5 B5 r5; have hq5 := below_row (grow_trans (grow_trans HB2.out HB3.out) HB4.out) r5 (by have := Hg9.out; have := HB3.out.size; have := HB2.out.size; omega); have HD5 := hidden (HDP.out.hold hq5 (by have := Hg9.out; have := HB3.out.size; have := HB2.out.size; omega) B5); have c1 := HD5.out.c01.2; clear hq5 B5 r5)
          | (go_at_call 74; rw [HY.out]; refine (HD5.out.use (fun vp vf q => drop_last q j HC.out)).mono ?_; rintro e w6 ⟨rfl, d6⟩; have HD6 := hidden d6; have B6 := d6.held (List.mem_cons_self ..); have e6 := B6.cell 70; simp only [List.getElem?_toArray] at e6; rw [HKL.out.2] at e6; clear d6 B6)
          | (go_at_call 75; have mk := m1; clear mk; refine (letGo_any HD7.out HZ2.out k.l HSL.out (by have := HL1.out; have := HLR.out k.r; rw [List.length_append, List.length_reverse]; omega)).mono ?_; rintro e w8 ⟨a8, q8, c8, rfl, hq8, d8⟩; have HQ8 := hidden hq8; have HD8 := hidden d8; clear d8 hq8)
          | (go_at_call 75; refine (letGo_any HD6.out HZ1.out k.r HSR.out (by have := HL1.out; rw [List.length_reverse]; omega)).mono ?_; rintro e w7 ⟨a7, q7, c7, rfl, hq7, d7⟩; clear hq7; have HD7 := hidden d7; have B7 := d7.held (List.mem_cons_self ..); have e7 := B7.cell 69; simp only [List.getElem?_toArray] at e7; rw [HKL.out.1] at e7; have m1 : Hid True := trivial; clear d7 B7))
        have hst := step_free HW1.out HC.out
        have htt := tot_free cs1 j HC.out
        have hE : (ne0 (ce cs1 j).l ++ (ne0 (ce cs1 j).r ++ st1)).reverse = st1.reverse ++ ne0 k.r ++ ne0 k.l := by rw [← HKE.out, List.reverse_append, List.reverse_append, ne0_rev, ne0_rev]
        have hF : dnA (dnA (cs1.set j (0, zc)) k.r) k.l = freeC cs1 j := by unfold freeC; rw [← HKE.out]
        have hd8 := HD8.out
        rw [← hE, hF] at hd8
        have hq8 := HQ8.out
        rw [← hE, List.length_reverse] at hq8
        rw [hq8] at hd8
        have hmm : mea w8 = tot (freeC cs1 j) := by
          obtain ⟨vp1, vf1, q1, _⟩ := hd8
          exact HME.out _ _ _ _ _ q1
        refine ⟨⟨_, n + 1, freeC cs1 j, fr1 ++ [j + 1], ne0 (ce cs1 j).l ++ (ne0 (ce cs1 j).r ++ st1), a8, c8, rfl, by go_num, by rw [hq8], hd8.less (fun _ h => by cases h), hst.wf, ?_, ?_, fun cs' fr' q hq => ?_⟩, ?_⟩
        · have := hst.noc
          have := HNN.out
          omega
        · have := HLL.out
          have h1 := HLR.out (ce cs1 j).l
          have h2 := HLR.out (ce cs1 j).r
          simp only [List.length_cons] at this
          simp only [List.length_append, List.length_singleton]
          omega
        · have := HRR.out _ _ _ (Run.free HC.out hq)
          rwa [show n + (q + 1) = n + 1 + q by omega] at this
        · rw [hmm, HME0.out]
          omega

end Go.Proofs.YtnnmfgnommbmkaaGreatDoor

namespace Go.Proofs.YtnnmfgnommbmkaaGreatDoor
set_option maxRecDepth 20000
open Go.RowKit

def Hw (w0 w : World) (g gs room : Nat) (cs : List (Nat × Ce)) (fr : List Nat) : Prop := (∃ vp vf, Stm w g gs vp vf room cs fr ∧ (∀ k ∈ stB g gs vp vf cs, w0.heap.size ≤ k) ∧ Below w0.heap.size w0 w) ∧ Wf cs []

theorem leaf_ok (K : List Int) (v : Value) (bs : List Int) (hb : Bytes bs) (hl : bs.length ≤ 1024) : LeafOk (lfC (lfD K (vaD bs)) K v bs) := ⟨rfl, rfl, rfl, rfl, rfl, rfl, hl, hb⟩

theorem Wf.kinds {cs : List (Nat × Ce)} {pend : List Nat} (w : Wf cs pend) (i : Nat) (hi : 0 < cc cs i) : (ce cs i).kind = 1 ∨ (ce cs i).kind = 2 := by
  rcases w.tr i hi with h | h
  · exact .inl h.kind
  · exact .inr h.kind

theorem side_fit {cs : List (Nat × Ce)} {pend : List Nat} (w : Wf cs pend) {h d : Nat} {b : Int} (m : mayP cs (h : Int)) (hf : fsP (sdC cs h) d b = true) : SideOk cs d b h := by
  rcases m.side with e | ⟨h1, h2, h3⟩
  · exact .inl e
  · refine .inr ⟨h1, h2, ?_⟩
    unfold sdC at hf
    rw [if_neg (by omega)] at hf
    unfold fsP at hf
    rcases w.kinds _ h2 with k | k
    · rw [if_pos k] at hf
      exact ⟨by simpa using hf, .inl k⟩
    · rw [if_neg (by omega), if_pos k] at hf
      simp only [Bool.and_eq_true, decide_eq_true_eq] at hf
      exact ⟨hf.2, .inr ⟨k, hf.1⟩⟩

theorem kind0 {cs : List (Nat × Ce)} {pend : List Nat} (w : Wf cs pend) {h : Nat} (m : mayP cs (h : Int)) : (sdC cs h).kind = 0 ↔ h = 0 := by
  constructor
  · intro e
    rcases m.side with e2 | ⟨h1, h2, h3⟩
    · exact e2
    · unfold sdC at e
      rw [if_neg (by omega)] at e
      rcases w.kinds _ h2 with k | k <;> omega
  · rintro rfl
    rfl

theorem inn_ok {cs : List (Nat × Ce)} {pend : List Nat} (w : Wf cs pend) {d l r : Nat} {K : List Int} {u : Bool} (hd : d < 256) (ml : mayP cs (l : Int)) (mr : mayP cs (r : Int)) (hu : u = true ↔ Und (sdC cs l).key (sdC cs r).key (d : Int)) (hf : fitP d (sdC cs l) (sdC cs r) u = true) (hK : IsFill (if (sdC cs l).kind = 0 then (sdC cs r).key else (sdC cs l).key) d 0 K) : InnOk cs (inC (inD (sdD cs l) (sdD cs r)) K ((sdC cs l).sz + (sdC cs r).sz) d l r) := by
  unfold fitP at hf
  simp only [Bool.and_eq_true, Bool.or_eq_true, decide_eq_true_eq] at hf
  obtain ⟨h1, h2, h3, h4⟩ := hf
  refine ⟨rfl, hd, rfl, rfl, side_fit w ml h2, side_fit w mr h3, rfl, h1, fun hl hr => ?_, ?_, rfl⟩
  · rcases h4 with h4 | h4 | h4
    · exact absurd ((kind0 w ml).1 h4) hl
    · exact absurd ((kind0 w mr).1 h4) hr
    · exact hu.1 h4
  · by_cases e : l = 0
    · have := (kind0 w ml).2 e
      rw [if_pos this] at hK
      show IsFill (if l = 0 then _ else _) d 0 K
      rw [if_pos e]
      exact hK
    · have : ¬ (sdC cs l).kind = 0 := fun q => e ((kind0 w ml).1 q)
      rw [if_neg this] at hK
      show IsFill (if l = 0 then _ else _) d 0 K
      rw [if_neg e]
      exact hK

theorem mayP.own {cs : List (Nat × Ce)} {h : Nat} (m : mayP cs (h : Int)) (h0 : h ≠ 0) : 0 < Go.Proofs.YtnnmfgnommbmkaaGreatDoor.own cs [] (h - 1) := by
  rcases m.side with e | ⟨_, _, e⟩
  · exact absurd e h0
  · unfold Go.Proofs.YtnnmfgnommbmkaaGreatDoor.own
    rw [List.count_nil]
    omega

end Go.Proofs.YtnnmfgnommbmkaaGreatDoor
