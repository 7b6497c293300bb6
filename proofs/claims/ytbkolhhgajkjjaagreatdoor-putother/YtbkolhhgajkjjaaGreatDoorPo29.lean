/- The document's slots beside the store's cells: what is dropped, step by step. -/
import Derived.Test.YtbkolhhgajkjjaaGreatDoorPo28
import Derived.Deep.CutRange
namespace Go.Proofs.YtbkolhhgajkjjaaGreatDoor
set_option maxHeartbeats 4000000
set_option maxRecDepth 20000
open Go.RowKit
structure Rel7 (cs : List (Nat × Ce)) (p q : List Nat) (ss : List Sp) : Prop where
 len : ss.length = cs.length
 kind : ∀ i, (spAt ss i).kind = (ce cs i).kind
 d : ∀ i, (spAt ss i).d = (ce cs i).dp
 key : ∀ i, (ce cs i).kind = 1 → (spAt ss i).key = (ce cs i).key
 bs : ∀ i, (spAt ss i).bs = (ce cs i).bs
 l : ∀ i, (spAt ss i).l = (ce cs i).l
 r : ∀ i, (spAt ss i).r = (ce cs i).r
 own : ∀ i, (spAt ss i).own = Go.Proofs.YtbkolhhgajkjjaaGreatDoor.own cs p i
 sd : ∀ i, (spAt ss i).sd = (ce cs i).ab + q.count (i + 1)
theorem Run.split {cs : List (Nat × Ce)} {fr st : List Nat} {cs' : List (Nat × Ce)} {fr' : List Nat} {n : Nat} (h : Run cs fr st cs' fr' n) : ∀ a b, st = a ++ b → ∃ cs1 fr1 n1 n2, Run cs fr a cs1 fr1 n1 ∧ Run cs1 fr1 b cs' fr' n2 ∧ n = n1 + n2 := by
 induction h with
 | done cs fr =>
  intro a b e
  obtain ⟨rfl, rfl⟩ := List.append_eq_nil_iff.1 e.symm
  exact ⟨_, _, 0, 0, Run.done _ _, Run.done _ _, rfl⟩
 | keep hc hr ih =>
  intro a b e
  cases a with
  | nil =>
   rw [List.nil_append] at e
   subst e
   exact ⟨_, _, 0, _, Run.done _ _, Run.keep hc hr, by omega⟩
  | cons x a =>
   rw [List.cons_append] at e
   injection e with e1 e2
   subst e1
   obtain ⟨cs1, fr1, n1, n2, h1, h2, h3⟩ := ih a b e2
   exact ⟨cs1, fr1, n1, n2, Run.keep hc h1, h2, h3⟩
 | free hc hr ih =>
  intro a b e
  cases a with
  | nil =>
   rw [List.nil_append] at e
   subst e
   exact ⟨_, _, 0, _, Run.done _ _, Run.free hc hr, by omega⟩
  | cons x a =>
   rw [List.cons_append] at e
   injection e with e1 e2
   subst e1
   subst e2
   obtain ⟨cs1, fr1, n1, n2, h1, h2, h3⟩ := ih (ne0 (ce _ _).l ++ (ne0 (ce _ _).r ++ a)) b (by simp only [List.append_assoc]; rfl)
   exact ⟨cs1, fr1, n1 + 1, n2, Run.free hc h1, h2, by omega⟩
theorem Rel7.inn {cs : List (Nat × Ce)} {p q : List Nat} {ss : List Sp} (h : Rel7 cs p q ss) {pend : List Nat} (w : Wf cs pend) (i : Nat) : (spAt ss i).kind ≠ 0 ↔ 0 < cc cs i := by
 rw [h.kind i]
 constructor
 ·intro hk
  apply Nat.pos_of_ne_zero
  intro e
  rw [w.zero i e] at hk
  exact hk rfl
 ·intro hc
  rcases w.kinds i hc with e | e <;> rw [e] <;> decide
theorem Rel7.less {cs : List (Nat × Ce)} {i : Nat} {rest : List Nat} {ss : List Sp} (h : Rel7 cs ((i + 1) :: rest) rest ss) (w : Wf cs ((i + 1) :: rest)) (hc : 1 < cc cs i) : Rel7 (lessC cs i) rest rest ss ∧ 0 < (spAt ss i).own + (spAt ss i).sd := by
 have s := Zfp w hc
 have hl := Zbu (cs := cs) (i := i) (by omega)
 have hce : ∀ j, ce (lessC cs i) j = ce cs j := fun j => by
  unfold lessC
  rw [Zdi cs i j _ hl]
  split
  ·next e => rw [e]
  ·rfl
 refine ⟨⟨by rw [s.len]; exact h.len, fun j => by rw [hce]; exact h.kind j, fun j => by rw [hce]; exact h.d j, fun j => by rw [hce]; exact h.key j, fun j => by rw [hce]; exact h.bs j, fun j => by rw [hce]; exact h.l j, fun j => by rw [hce]; exact h.r j, fun j => by rw [s.own]; exact h.own j, fun j => by rw [hce]; exact h.sd j⟩, ?_⟩
 have h1 := w.own i
 rw [List.count_cons_self] at h1
 rw [h.own, h.sd]
 omega
theorem Rel7.free {cs : List (Nat × Ce)} {i : Nat} {rest : List Nat} {ss : List Sp} (h : Rel7 cs ((i + 1) :: rest) rest ss) (w : Wf cs ((i + 1) :: rest)) (hc : cc cs i = 1) : Rel7 (freeC cs i) (ne0 (ce cs i).l ++ (ne0 (ce cs i).r ++ rest)) (ne0 (ce cs i).l ++ (ne0 (ce cs i).r ++ rest)) (ss.set i zs7) ∧ (spAt ss i).own + (spAt ss i).sd = 0 := by
 have s := Zeh w hc
 have hl := Zbu (cs := cs) (i := i) (by omega)
 have hls : i < ss.length := by rw [h.len]; exact hl
 have h1 := w.own i
 rw [List.count_cons_self] at h1
 have hn := w.tr i (by omega)
 obtain ⟨nl, nr⟩ := hn.side_ne rfl
 obtain ⟨bl, br⟩ := hn.side_lt
 have a1 := Zgc (cs.set i (0, zc)) (ce cs i).r
 have a2 := Zgc (dnA (cs.set i (0, zc)) (ce cs i).r) (ce cs i).l
 have hcore : ∀ j, Core (if j = i then zc else ce cs j) (ce (freeC cs i) j) := fun j => by
  have e : ce (cs.set i (0, zc)) j = if j = i then zc else ce cs j := Zdi cs i j _ hl
  rw [← e]
  exact (a1.core j).trans (a2.core j)
 have hpc : ∀ j, (ne0 (ce cs i).l ++ (ne0 (ce cs i).r ++ rest)).count (j + 1) = (if (ce cs i).l = j + 1 then 1 else 0) + ((if (ce cs i).r = j + 1 then 1 else 0) + rest.count (j + 1)) := fun j => by rw [List.count_append, List.count_append, Zft, Zft]
 have aa : AbOf (cs.set i (0, zc)) (freeC cs i) := a1.trans a2
 have hce : ∀ j, ce (cs.set i (0, zc)) j = if j = i then zc else ce cs j := fun j => Zdi cs i j _ hl
 have hab : ∀ j, (ce (freeC cs i) j).ab = (if j = i then 0 else (ce cs j).ab) - (if (ce cs i).r = j + 1 then 1 else 0) - (if (ce cs i).l = j + 1 then 1 else 0) := fun j => by
  unfold freeC
  rw [Znn _ _ _ (by rw [a1.len, List.length_set]; exact bl), Znn _ _ _ (by rw [List.length_set]; exact br), hce]
  split
  ·rfl
  ·rfl
 have hns : ∀ j, ns (freeC cs i) j + ((if (ce cs i).l = j + 1 then 1 else 0) + (if (ce cs i).r = j + 1 then 1 else 0)) = ns cs j := fun j => by
  have h1 := Zjz cs j i (0, zc) hl
  have h2 : con j (cc cs i, ce cs i) = (if (ce cs i).l = j + 1 then 1 else 0) + (if (ce cs i).r = j + 1 then 1 else 0) := by simp [con, hc]
  have h3 : con j (0, zc) = 0 := rfl
  have h4 := aa.ns j
  omega
 have hsp : ∀ j, spAt (ss.set i zs7) j = if j = i then zs7 else spAt ss j := fun j => Zdw ss i j zs7 hls
 have hF : ∀ {α : Type} (f : Sp → α) (k : Ce → α), (∀ c n, k { c with ab := n } = k c) → f zs7 = k zc → (∀ j, f (spAt ss j) = k (ce cs j)) → ∀ j, f (spAt (ss.set i zs7) j) = k (ce (freeC cs i) j) := fun f k hab hz hs j => by
  rw [hsp, hcore j, hab]
  split
  ·exact hz
  ·exact hs j
 refine ⟨⟨by rw [List.length_set, s.len]; exact h.len, hF (·.kind) (·.kind) (fun _ _ => rfl) rfl h.kind, hF (·.d) (·.dp) (fun _ _ => rfl) rfl h.d, fun j => ?_, hF (·.bs) (·.bs) (fun _ _ => rfl) rfl h.bs, hF (·.l) (·.l) (fun _ _ => rfl) rfl h.l, hF (·.r) (·.r) (fun _ _ => rfl) rfl h.r, fun j => ?_, fun j => ?_⟩, ?_⟩
 ·rw [hsp, hcore j]
  split
  ·intro e
   exact absurd e (show ¬ (zc.kind = 1) by decide)
  ·exact h.key j
 ·rw [hsp, s.own, ← h.own]
  split
  ·next e =>
   rw [e, h.own]
   show 0 = _
   omega
  ·rfl
 ·rw [hsp, hpc, hab]
  have h2 := hns j
  have h3 := w.ab j
  split
  ·next e =>
   subst e
   rw [if_neg nl, if_neg nr]
   show 0 = _
   omega
  ·rw [h.sd]
   omega
 ·rw [h.own, h.sd]
  omega
theorem Rel7.side {cs : List (Nat × Ce)} {i : Nat} {rest : List Nat} {ss : List Sp} (h : Rel7 cs ((i + 1) :: rest) ((i + 1) :: rest) ss) (hi : i < ss.length) : ∃ n, (spAt ss i).sd = n + 1 ∧ Rel7 cs ((i + 1) :: rest) rest (ss.set i { spAt ss i with sd := n }) := by
 have h1 := h.sd i
 rw [List.count_cons_self] at h1
 have hsp := fun j => Zdw ss i j { spAt ss i with sd := (ce cs i).ab + rest.count (i + 1) } hi
 refine ⟨(ce cs i).ab + rest.count (i + 1), by omega, ?_⟩
 have hF : ∀ {α : Type} (f : Sp → α) (k : Nat → α), (∀ c n, f { c with sd := n } = f c) → (∀ j, f (spAt ss j) = k j) → ∀ j, f (spAt (ss.set i { spAt ss i with sd := (ce cs i).ab + rest.count (i + 1) }) j) = k j := fun f k hab hs j => by
  rw [hsp]
  split
  ·next e => rw [hab, e]; exact hs i
  ·exact hs j
 refine ⟨by rw [List.length_set]; exact h.len, hF (·.kind) _ (fun _ _ => rfl) h.kind, hF (·.d) _ (fun _ _ => rfl) h.d, fun j => ?_, hF (·.bs) _ (fun _ _ => rfl) h.bs, hF (·.l) _ (fun _ _ => rfl) h.l, hF (·.r) _ (fun _ _ => rfl) h.r, hF (·.own) _ (fun _ _ => rfl) h.own, fun j => ?_⟩
 ·rw [hsp]
  split
  ·next e => rw [e]; exact h.key i
  ·exact h.key j
 ·rw [hsp]
  split
  ·next e => rw [e]
  ·next e =>
   have := h.sd j
   rw [List.count_cons_of_ne (by omega)] at this
   exact this
theorem Rel7.hold {cs : List (Nat × Ce)} {i : Nat} {ss : List Sp} (h : Rel7 cs [] [] ss) (w : Wf cs []) (ho : 0 < Go.Proofs.YtbkolhhgajkjjaaGreatDoor.own cs [] i) (hi : i < ss.length) : ∃ n, (spAt ss i).own = n + 1 ∧ Rel7 cs [i + 1] [] (ss.set i { spAt ss i with own := n }) := by
 have h1 := h.own i
 have hsp := fun j => Zdw ss i j { spAt ss i with own := Go.Proofs.YtbkolhhgajkjjaaGreatDoor.own cs [] i - 1 } hi
 refine ⟨Go.Proofs.YtbkolhhgajkjjaaGreatDoor.own cs [] i - 1, by omega, ?_⟩
 have hF : ∀ {α : Type} (f : Sp → α) (k : Nat → α), (∀ c n, f { c with own := n } = f c) → (∀ j, f (spAt ss j) = k j) → ∀ j, f (spAt (ss.set i { spAt ss i with own := Go.Proofs.YtbkolhhgajkjjaaGreatDoor.own cs [] i - 1 }) j) = k j := fun f k hab hs j => by
  rw [hsp]
  split
  ·next e => rw [hab, e]; exact hs i
  ·exact hs j
 refine ⟨by rw [List.length_set]; exact h.len, hF (·.kind) _ (fun _ _ => rfl) h.kind, hF (·.d) _ (fun _ _ => rfl) h.d, fun j => ?_, hF (·.bs) _ (fun _ _ => rfl) h.bs, hF (·.l) _ (fun _ _ => rfl) h.l, hF (·.r) _ (fun _ _ => rfl) h.r, fun j => ?_, hF (·.sd) _ (fun _ _ => rfl) h.sd⟩
 ·rw [hsp]
  split
  ·next e => rw [e]; exact h.key i
  ·exact h.key j
 ·rw [hsp]
  have h2 := w.own j
  unfold Go.Proofs.YtbkolhhgajkjjaaGreatDoor.own at h2 ⊢
  split
  ·next e =>
   subst e
   rw [List.count_cons_self]
   rw [List.count_nil] at h2 ⊢
   show _ - _ - 1 = _
   omega
  ·next e =>
   rw [List.count_cons_of_ne (by omega)]
   exact h.own j
theorem Zwp (ss : List Sp) (hk : ∀ s ∈ ss, s.key.length = 32) (i : Nat) (hi : i < ss.length) (s' : Sp) (h' : s'.key.length = 32) : setL (ss.flatMap sz7) (i * 39) (sz7 s') = (ss.set i s').flatMap sz7 := by
 have e : ss = ss.take i ++ ss[i] :: ss.drop (i + 1) := by
  rw [List.getElem_cons_drop, List.take_append_drop]
 have hp : ((ss.take i).flatMap sz7).length = i * 39 := by
  have : ∀ l : List Sp, (∀ s ∈ l, s.key.length = 32) → (l.flatMap sz7).length = l.length * 39 := fun l => by
   induction l with
   | nil => intro _; rfl
   | cons s l ih =>
    intro h
    rw [List.flatMap_cons, List.length_append, Zw s (h s (by simp)), ih (fun t ht => h t (List.mem_cons_of_mem _ ht)), List.length_cons]
    omega
  rw [this _ (fun s hs => hk s (List.mem_of_mem_take hs)), List.length_take, Nat.min_eq_left (by omega)]
 have e2 : ss.set i s' = ss.take i ++ s' :: ss.drop (i + 1) := by
  rw [List.set_eq_take_append_cons_drop, if_pos hi]
 have e3 : ss.flatMap sz7 = (ss.take i).flatMap sz7 ++ (sz7 ss[i] ++ (ss.drop (i + 1)).flatMap sz7) := by
  conv => lhs; rw [e]
  rw [List.flatMap_append, List.flatMap_cons]
 rw [e2, e3, ← hp, Zhl _ _ _ _ (by rw [Zw _ (hk _ (List.getElem_mem hi)), Zw _ h']), List.flatMap_append, List.flatMap_cons]
theorem Rs.putS {w w' : World} {g b n c : Nat} {vf : Value} {room : Nat} {ss : List Sp} {fr : List Nat} (h : Rs w g (.slice (some ⟨b, 0, none⟩) n c) vf room ss fr) (i : Nat) (hi : i < ss.length) (s' : Sp) (ok : SpOk s') (hz : s'.kind = 0 → s' = zs7) (hv : ∃ sp, Own 0 w s'.val s'.bs sp) (hl : Lst w' 116 39 (.slice (some ⟨b, 0, none⟩) n c) n (setL (ss.flatMap sz7) (i * 39) (sz7 s'))) (m : Mod [b] w w') : Rs w' g (.slice (some ⟨b, 0, none⟩) n c) vf room (ss.set i s') fr := by
 obtain ⟨_, _, e⟩ := Zm h.sps
 injection e with _ e _
 subst e
 obtain ⟨b1, _, _, hb1, _⟩ := Zgt h.sps b rfl
 have hvv : ∀ (v : Value) (zs : List Int), (∃ sp, Own 0 w v zs sp) → ∃ sp, Own 0 w' v zs sp := fun v zs ⟨sp, ho⟩ => by
  refine ⟨sp, ho.mod m (fun k hk e => ?_)⟩
  obtain rfl : k = b := by simpa using e
  obtain ⟨_, hb2⟩ := ho.blk k hk
  exact hb1.ne hb2 Ycn rfl
 refine ⟨h.blk.mod m ?_, ?_, Zbf h.frs m (fun k hk e => ?_), fun s hs => ?_, fun s hs => ?_, fun s hs hk => ?_, by rw [List.length_set]; exact h.few⟩
 ·intro e
  obtain rfl : g = b := by simpa using e
  exact hb1.ne h.blk Zrs rfl
 ·rw [Zwp ss (fun s hs => (h.ok s hs).hk.1) i hi s' ok.hk.1] at hl
  rw [List.length_set]
  exact hl
 ·obtain rfl : k = b := by simpa using e
  exact Ziq h.sps h.frs Zyh k rfl hk
 ·rcases Zci hs with rfl | hs
  ·exact hvv _ _ hv
  ·exact hvv _ _ (h.vals s hs)
 ·rcases Zci hs with rfl | hs
  ·exact ok
  ·exact h.ok s hs
 ·rcases Zci hs with rfl | hs
  ·exact hz hk
  ·exact h.zero s hs hk
theorem Rs.newF {w w1 w2 : World} {g : Nat} {vp vf vf' : Value} {room : Nat} {ss : List Sp} {fr fr' : List Nat} (h : Rs w g vp vf room ss fr) (hl : Lst w1 3 1 vf' fr'.length (nats fr')) (hg : w.grownBy w1 vf.ownBlock) (hs : w2 = w1.setCell ⟨g, 3, none⟩ vf') (h6 : fr'.length ≤ 65536) : Rs w2 g vp vf' room ss fr' ∧ Mod (g :: vf.ownBlock.toList) w w2 := by
 have m1 : Mod vf.ownBlock.toList w w1 := Mod.of_grown hg (fun k hk => by simp [hk])
 have hS : ∀ k ∈ vf.ownBlock.toList, vf.ownBlock = some k := fun k hk => by simpa using hk
 have hb1 : Blk w1 g 70 #[.bool true, .int .i64 (room : Int), vp, vf] := h.blk.mod m1 (fun e => Zq h.frs h.blk Zob (hS g e))
 have m2 : Mod [g] w1 w2 := by rw [hs]; exact Mod.setCell _ _ _ _ (by simp)
 have mm : Mod (g :: vf.ownBlock.toList) w w2 := (m1.mono (fun k hk => List.mem_cons_of_mem _ hk)).trans' (m2.mono (fun k hk => by simp at hk; subst hk; exact List.mem_cons_self ..))
 have hne : vf'.ownBlock ≠ some g := fun e => by
  exact Zq hl hb1 Zob e
 refine ⟨⟨?_, Zbf h.sps mm (fun k hk e => ?_), Zbf hl m2 (fun k hk e => ?_), fun s hs' => ?_, h.ok, h.zero, h.few.1, h6⟩, mm⟩
 ·have := hb1.set 3 vf'
  rw [hs]
  exact this
 ·rcases List.mem_cons.1 e with rfl | e
  ·exact Zq h.sps h.blk Zrs hk
  ·exact Ziq h.sps h.frs Zyh k hk (hS k e)
 ·obtain rfl : k = g := by simpa using e
  exact hne hk
 ·obtain ⟨sp, ho⟩ := h.vals s hs'
  refine ⟨sp, ho.mod mm (fun k hk e => ?_)⟩
  obtain ⟨_, hb2⟩ := ho.blk k hk
  rcases List.mem_cons.1 e with rfl | e
  ·exact hb2.ne h.blk Ycm rfl
  ·exact Zq h.frs hb2 Yfb.symm (hS k e)
def Rq (w : World) (S : List Nat) (g room : Nat) (ss : List Sp) (fr : List Nat) (b5 : Nat) (X : Array Value) (wr : World) : Prop := ∃ vp vf, Rs wr g vp vf room ss fr ∧ Mod S w wr ∧ New S w (rsB g vp vf ss) ∧ Blk wr b5 116 X ∧ b5 ∉ rsB g vp vf ss
theorem Rq.out {w : World} {S : List Nat} {g room : Nat} {ss : List Sp} {fr : List Nat} {b5 : Nat} {X : Array Value} {wr : World} (h : Rq w S g room ss fr b5 X wr) : RT7 w g S room ss fr wr := by
 obtain ⟨vp, vf, h1, h2, h3, _⟩ := h
 exact ⟨vp, vf, h1, h2, h3⟩
theorem Rq.use {w : World} {S : List Nat} {g room : Nat} {ss : List Sp} {fr fr' : List Nat} {b5 : Nat} {X : Array Value} {wr : World} {f : FuncId} {args : Array Value} {E : Ending} {P : List Sp → Prop} (h : Rq w S g room ss fr b5 X wr) (hc : ∀ vp vf, Rs wr g vp vf room ss fr → Calls Tryz.prog f args wr fun e w' => e = E ∧ ∃ ss', P ss' ∧ RT7 wr g (rsB g vp vf ss) room ss' fr' w') : Calls Tryz.prog f args wr fun e w' => e = E ∧ ∃ ss', P ss' ∧ Rq w S g room ss' fr' b5 X w' := by
 obtain ⟨vp, vf, h1, h2, h3, h4, h5⟩ := h
 refine (hc vp vf h1).mono ?_
 rintro e w' ⟨rfl, ss', hP, vp', vf', k1, k2, k3⟩
 refine ⟨rfl, ss', hP, vp', vf', k1, h2.trans h3 k2, h3.trans h2.size k3, h4.mod k2 h5, fun e => ?_⟩
 rcases k3 b5 e with e | e
 ·exact h5 e
 ·have := h4.lt
  omega
theorem Zon {w : World} {g : Nat} {vp vf : Value} {room : Nat} {ss : List Sp} {fr : List Nat} (h : Rs w g vp vf room ss fr) (i : Nat) (hi : i < ss.length) (hm : 0 < (spAt ss i).own + (spAt ss i).sd) (hM : (spAt ss i).own + (spAt ss i).sd ≤ 1073741824) : Calls Tryz.prog 85 #[.pointer (some ⟨g, 0, none⟩), .int .i64 ((i : Int) + 1)] w fun e w' => e = .returned (.int .i64 0) ∧ Below w.heap.size w w' := by
 have c2 := h.c2
 have ok := Zcx h i
 obtain ⟨b, c, rfl, k1, k2, k3, j0, j1, hw⟩ := h.num i hi
 have HR := Za (h.range i hi)
 have HL : Hid ((Tryz.prog.info? 116).map (·.size) = some (sz7 (spAt ss i)).length) := by
  show _ = _
  rw [Zw _ ok.hk.1]
  exact Zbr
 have HL2 : Hid ((Tryz.prog.info? 116).map (·.size) = some (sz7 (spAt ss i)).toArray.size) := HL.out
 have HL3 : Hid ((sz7 zs7).toArray.size = (sz7 (spAt ss i)).toArray.size) := by
  show (sz7 zs7).length = (sz7 (spAt ss i)).length
  rw [Zw _ ok.hk.1]
  rfl
 have H1 := Za (Zcf ok)
 have HZ := Za Zcp
 have HAT := Za (Zbz (spAt ss i) ok.hk.1)
 have hx : wrap64 (((spAt ss i).own : Int) + ((spAt ss i).sd : Int)) = ((spAt ss i).own : Int) + ((spAt ss i).sd : Int) := Go.IntWalk.wrap64_in _ (by omega)
 have hx0 : (0 : Int) < ((spAt ss i).own : Int) + ((spAt ss i).sd : Int) := by omega
 generalize sz7 zs7 = Z at HL3 HZ
 generalize sz7 (spAt ss i) = X at HR HL HL2 HL3 H1 HAT
 generalize ((spAt ss i).own : Int) = A at HAT hx hx0
 generalize ((spAt ss i).sd : Int) = D at HAT hx hx0
 obtain ⟨q, hq⟩ : ∃ q : Int, q = (i : Int) + 1 := ⟨_, rfl⟩
 rw [← hq]
 have h3 : q - 1 = (i : Int) := by omega
 clear h ok hq hm hM k1 k2 k3
 go_enter Tryz.func85, Tryz.ntmps85
 go_wp2_with (first
  | ((with_reducible refine Zl 14 13 ?_); refine wpList_load_mid rfl _ _ rfl b (i * 39) rfl X _ HR.out Tryz.underlying116 rfl HL.out ?_)
  | ((with_reducible refine Zx 5 ?_); refine Ze _ rfl _ rfl _ HZ.out ?_; intro w1 b5 hg5 hl5 B5 b1; have HB5 := Za B5; have Hg5 := Za hg5; have HB1 := Za b1; clear B5 hg5 hl5 b1)
  | ((with_reducible refine Zag 5 ?_); refine Zf _ rfl _ _ _ rfl b5 _ X.toArray rfl rfl HB5.out HL2.out HL3.out (all_oneCell_toArray H1.out) ?_; intro w2 B6 g6; have e1 := B6.cell 37; have e2 := B6.cell 38; simp only [List.getElem?_toArray] at e1 e2; rw [HAT.out.2.2.2.2.2.1] at e1; rw [HAT.out.2.2.2.2.2.2] at e2; have HG6 := Za g6; clear B6 g6))
 go_ret
 exact ⟨rfl, Zd HB1.out HG6.out Hg5.out⟩
theorem Zok {w : World} {g : Nat} {vp vf : Value} {room : Nat} {ss : List Sp} {fr : List Nat} (h : Rs w g vp vf room ss fr) (hf : fr ≠ []) : Calls Tryz.prog 68 #[.pointer (some ⟨g, 0, none⟩)] w fun e w' => e = .returned (.bool false) ∧ Below w.heap.size w w' := by
 have c3 := h.c3
 obtain ⟨fa, fc, rfl⟩ := Zm h.frs
 obtain ⟨nf, hnf⟩ : ∃ n, n = fr.length := ⟨_, rfl⟩
 rw [← hnf] at c3
 have hp : 0 < nf := by rw [hnf]; exact List.length_pos_iff.2 hf
 have z1 : ¬ (nf : Int) = 0 := by omega
 have z2 : ¬ nf = 0 := by omega
 have c3d : w.drew.cell? ⟨g, 3, none⟩ = some (.slice fa nf fc) := c3
 clear h hf hnf
 go_enter Tryz.func68, Tryz.ntmps68
 go_wp2_with fail
 refine wp_region_held_drew (S := fun w' => w'.cell? ⟨g, 3, none⟩ = some (.slice fa nf fc)) (by kernel_rfl) (c3d) (fun hHeld => ?_)
 refine tkp 0 (.pointer (some ⟨g, 0, none⟩)) hHeld ?_
 simp only [zq]
 refine tkp 1 (.pointer (some ⟨g, 0, none⟩)) hHeld ?_
 simp only [zq]
 refine tkp 2 (.pointer (some ⟨g, 3, none⟩)) hHeld ?_
 simp only [zq]
 refine tkg 3 (.slice fa nf fc) rfl (Or.inl ⟨by rfl, fun w hS => by (have q1 := hS; go_simp)⟩) hHeld ?_
 simp only [zq]
 refine tkp 4 (.int .i64 nf) hHeld ?_
 simp only [zq]
 refine tkp 5 (.bool false) hHeld ?_
 simp only [zq]
 refine tkp 6 (.bool false) hHeld ?_
 simp only [zq]
 refine tks 7 hHeld ?_
 simp only [zq]
 refine tks 8 hHeld ?_
 simp only [zq]
 refine tks 9 hHeld ?_
 simp only [zq]
 refine tks 10 hHeld ?_
 simp only [zq]
 refine tks 11 hHeld ?_
 simp only [zq]
 refine tks 12 hHeld ?_
 simp only [zq]
 refine tks 13 hHeld ?_
 simp only [zq]
 refine tks 14 hHeld ?_
 simp only [zq]
 refine tks 15 hHeld ?_
 simp only [zq]
 refine tks 16 hHeld ?_
 simp only [zq]
 refine tkp 17 (.bool false) hHeld ?_
 simp only [zq]
 refine tkp 18 (.bool false) hHeld ?_
 simp only [zq]
 refine wpAnyH_done (by kernel_rfl) ?_ _
 go_wp2
 go_ret
 exact ⟨rfl, below_drewN (Below.refl _ _) 1⟩
theorem Zjv {w : World} {g : Nat} {vp vf : Value} {room : Nat} {ss : List Sp} {fr : List Nat} (h : Rs w g vp vf room ss fr) (b : Bool) (hb : b = true ↔ Full room ss fr) : Calls Tryz.prog 68 #[.pointer (some ⟨g, 0, none⟩)] w fun e w' => e = .returned (.bool b) ∧ Below w.heap.size w w' := by
 by_cases hf : fr = []
 ·subst hf
  refine Zol h b ?_
  by_cases q : room ≤ ss.length
  ·rw [hb.2 ⟨rfl, q⟩]
   simp [q]
  ·have : ¬ b = true := fun e => q (hb.1 e).2
   simp [q, this]
 ·have : b = false := by
   cases b with
   | false => rfl
   | true => exact absurd (hb.1 rfl).1 hf
  subst this
  exact Zok h hf
theorem Zqr : ∃ i z, Tryz.prog.info? 116 = some i ∧ i.zero = some z ∧ i.size = 39 ∧ i.bytes = 104 ∧ z.cells.size = 39 := by
 refine ⟨_, _, rfl, rfl, ?_, ?_, ?_⟩ <;> kernel_rfl
theorem Zyk {ops : Array Oper} {op : Oper} {a : Act} {K : Act → World → Prop} {Q : Exit → Act → World → Prop} {E : Prop} (w : World) (hgd : op.guard = none) (x : Operand) (ho : op.op = .buildSlice 68 1 #[(0, x)])
  (X : List Value) (hx : a.eval x = .agg X.toArray) (hl : X.length = 39)
  (hk : K (a.put op.dst (.slice (some ⟨w.heap.size, 0, none⟩) 1 1)) (w.alloc (.cells X.toArray 116))) : if Region.wanted op (yielded ops a.tmps) = true then Oper.wp Tryz.prog op a w K Q else E := by
 have hw : Region.wanted op (yielded ops a.tmps) = true := by simp [Region.wanted, hgd]
 rw [if_pos hw]
 obtain ⟨i, z, hi, hz, hs, _, hzs⟩ := Zqr
 have hrun := run_buildSlice (P := Tryz.prog) w 68 116 1 #[(0, .agg X.toArray)] X.toArray i z Tryz.underlying68 hi hz (by rw [hs]; omega) (by rw [hs]; omega) (by
  rw [hs]
  obtain ⟨zs, hzz, hzl⟩ : ∃ zs : List Value, (Array.range (1 * 39)).map (z.cells[· % z.cells.size]!) = zs.toArray ∧ zs.length = 39 := ⟨_, (Array.toArray_toList).symm, by simp⟩
  rw [hzz]
  have := Zbk (fun i => some (i * 39, 39)) 0 0 39 (.agg X.toArray) X zs [] rfl rfl hl (by omega)
  rw [show (#[(0, Value.agg X.toArray)] : Array (Nat × Value)).toList = [(0, Value.agg X.toArray)] from rfl, this, Instr.fill]
  simp [hzl])
 unfold Oper.wp execOp
 simp only [ho, List.map_toArray, List.map_cons, List.map_nil, hx, Sem.run_bind, hrun, Result.andThen_ok, Sem.run_pure]
 exact hk
theorem Zmb {P : Program} {ops : Array Oper} {o : Oper} {a : Act} {K : Act → World → Prop} {Q : Exit → Act → World → Prop} {E : Prop} (w : World) (hgd : o.guard = none) (s x : Operand) (t : TypeId)
  (ho : o.op = .call { callee := .builtin .append, args := #[s, x], argTypes := #[t, t] })
  (e : TypeId) (size bytes : Nat) (ht : P.underlying t = some (.slice e)) (hin : ∃ i z, P.info? e = some i ∧ i.zero = some z ∧ i.size = size ∧ i.bytes = bytes ∧ z.cells.size = size) (hsz : 0 < size)
  (v : Value) (n : Nat) (xs : List Value) (hs : a.eval s = v) (hown : Lst w e size v n xs)
  (g : Nat) (news : List Value) (hx : a.eval x = .slice (some ⟨g, 0, none⟩) 1 1) (hb : Blk w g e news.toArray) (hl : news.length = size) (h1 : ∀ u ∈ news, u.oneCell' = true)
  (h63 : n + 1 ≤ maxLen) (hbytes : (n + 1) * bytes ≤ 140737488355328)
  (hk : ∀ v' w', Lst w' e size v' (n + 1) (xs ++ news) → w.grownBy w' v.ownBlock → WhereL w v v' → K (a.put o.dst v') w') : if Region.wanted o (yielded ops a.tmps) = true then Oper.wp P o a w K Q else E := by
 have hw : Region.wanted o (yielded ops a.tmps) = true := by simp [Region.wanted, hgd]
 rw [if_pos hw]
 obtain ⟨i, z, hi, hz, hsize, hby, hzs⟩ := hin
 obtain ⟨v', w', hr, h2, h3, h4⟩ := Zpy (P := P) w t o.type e i z size bytes ht hi hz hsize hby hzs hsz v n xs hown ⟨g, 0, none⟩ 1 1 news (by omega) (by
  intro j q hq
  rw [Addr.add_lit, Nat.zero_add, hb.cell]
  simpa using hq) h1 (by omega) h63 hbytes
 unfold Oper.wp execOp
 simp only [ho, resolve, invoke, builtin, Sem.run_bind, Sem.run_pure, Result.andThen_ok, List.map_toArray, List.map_cons, List.map_nil, hs, hx, hr]
 exact hk v' w' h2 h3 h4
theorem Ztf (n : Nat) (h : n ≤ 70000) : IntKind.i64.wrap (n : Int) = (n : Int) := by rw [IntKind.wrap_i64]; omega
theorem Rs.newP {w w1 w2 : World} {g : Nat} {vp vf vp' : Value} {room : Nat} {ss : List Sp} {fr : List Nat} {s' : Sp} (h : Rs w g vp vf room ss fr) (hl : Lst w1 116 39 vp' (ss ++ [s']).length ((ss ++ [s']).flatMap sz7)) (hg : w.grownBy w1 vp.ownBlock) (hs : w2 = w1.setCell ⟨g, 2, none⟩ vp') (ok : SpOk s') (hz : s'.kind = 0 → s' = zs7) (hv : ∃ sp, Own 0 w s'.val s'.bs sp) (h6 : ss.length + 1 ≤ 65536) : Rs w2 g vp' vf room (ss ++ [s']) fr ∧ Mod (g :: vp.ownBlock.toList) w w2 := by
 have m1 : Mod vp.ownBlock.toList w w1 := Mod.of_grown hg (fun k hk => by simp [hk])
 have hS : ∀ k ∈ vp.ownBlock.toList, vp.ownBlock = some k := fun k hk => by simpa using hk
 have hb1 : Blk w1 g 70 #[.bool true, .int .i64 (room : Int), vp, vf] := h.blk.mod m1 (fun e => Zq h.sps h.blk Zrs (hS g e))
 have m2 : Mod [g] w1 w2 := by rw [hs]; exact Mod.setCell _ _ _ _ (by simp)
 have mm : Mod (g :: vp.ownBlock.toList) w w2 := (m1.mono (fun k hk => List.mem_cons_of_mem _ hk)).trans' (m2.mono (fun k hk => by simp at hk; subst hk; exact List.mem_cons_self ..))
 have hne : vp'.ownBlock ≠ some g := fun e => by
  exact Zq hl hb1 Zrs e
 have hvv : ∀ (v : Value) (zs : List Int), (∃ sp, Own 0 w v zs sp) → ∃ sp, Own 0 w2 v zs sp := fun v zs ⟨sp, ho⟩ => by
  refine ⟨sp, ho.mod mm (fun k hk e => ?_)⟩
  obtain ⟨_, hb2⟩ := ho.blk k hk
  rcases List.mem_cons.1 e with rfl | e
  ·exact hb2.ne h.blk Ycm rfl
  ·exact Zq h.sps hb2 Ycn (hS k e)
 refine ⟨⟨?_, Zbf hl m2 (fun k hk e => ?_), Zbf h.frs mm (fun k hk e => ?_), fun s hs' => ?_, fun s hs' => ?_, fun s hs' hk => ?_, by rw [List.length_append, List.length_singleton]; exact h6, h.few.2⟩, mm⟩
 ·have := hb1.set 2 vp'
  rw [hs]
  exact this
 ·obtain rfl : k = g := by simpa using e
  exact hne hk
 ·rcases List.mem_cons.1 e with rfl | e
  ·exact Zq h.frs h.blk Zob hk
  ·exact Ziq h.sps h.frs Zyh k (hS k e) hk
 ·rcases List.mem_append.1 hs' with hs' | hs'
  ·exact hvv _ _ (h.vals s hs')
  ·obtain rfl : s = s' := by simpa using hs'
   exact hvv _ _ hv
 ·rcases List.mem_append.1 hs' with hs' | hs'
  ·exact h.ok s hs'
  ·obtain rfl : s = s' := by simpa using hs'
   exact ok
 ·rcases List.mem_append.1 hs' with hs' | hs'
  ·exact h.zero s hs' hk
  ·obtain rfl : s = s' := by simpa using hs'
   exact hz hk
theorem Rs.popF {w : World} {g bf nf fc : Nat} {vp : Value} {room x : Nat} {ss : List Sp} {fr0 : List Nat} (h : Rs w g vp (.slice (some ⟨bf, 0, none⟩) (nf + 1) fc) room ss (fr0 ++ [x])) (hn : nf = fr0.length) : Rs (w.setCell ⟨g, 3, none⟩ (.slice (some ⟨bf, 0, none⟩) nf fc)) g vp (.slice (some ⟨bf, 0, none⟩) nf fc) room ss fr0 := by
 subst hn
 have h0 := h.frs
 rw [List.length_append, List.length_singleton] at h0
 have hl := Zoz (m := fr0.length) h0 (by omega)
 rw [Nat.mul_one, Zim, List.take_left] at hl
 exact (h.newF (w1 := w) hl ⟨rfl, rfl, rfl, Nat.le_refl _, fun _ _ _ => rfl⟩ rfl (by have := h.few.2; rw [List.length_append] at this; omega)).1
def own1 (x : Sp) : Sp := { x with own := 1 }
theorem Zlc {x : Sp} (h : SpOk x) : SpOk (own1 x) := ⟨h.hk, h.vs⟩
theorem Zyj (x : Sp) (h : x.key.length = 32) : (sz7 x).set 37 (.int .i64 1) = sz7 (own1 x) := Zoc x h 1
theorem Zqi {w : World} {b3 : Nat} {x : Sp} (h : Blk w b3 116 (sz7 x).toArray) (hk : x.key.length = 32) : Blk (w.setCell ⟨b3, 37, none⟩ (.int .i64 1)) b3 116 (sz7 (own1 x)).toArray := by
 have := h.set 37 (.int .i64 1)
 rw [← Zyj x hk]
 simpa using this
theorem Zsa {w0 w : World} {g : Nat} {vp vf : Value} {room : Nat} {ss : List Sp} (hb : Below w0.heap.size w0 w) (h : Rs w g vp vf room ss []) (x : Sp) (ok : SpOk x) (hk : x.kind ≠ 0) (hv : ∃ sp, Own 0 w x.val x.bs sp) (hvb : ∀ k, x.val.ownBlock = some k → w0.heap.size ≤ k) (h6 : ss.length + 1 ≤ 65536) : Calls Tryz.prog 69 #[.pointer (some ⟨g, 0, none⟩), .agg (sz7 x).toArray] w fun e w' => e = .returned (.int .i64 ((ss.length + 1 : Nat) : Int)) ∧ RT7 w0 g (rsB g vp vf ss) room (ss ++ [own1 x]) [] w' ∧ Mod (rsB g vp vf ss) w w' := by
 obtain ⟨pa, pc, rfl⟩ := Zm h.sps
 obtain ⟨fa, fc, rfl⟩ := Zm h.frs
 have HR := Za h
 have HV := Za hv
 have HVB := Za hvb
 have HOK := Za ok
 have HK := Za hk
 have HBB := Za hb
 obtain ⟨nn, hnn⟩ : ∃ n, n = ss.length := ⟨_, rfl⟩
 have HNN := Za hnn
 have H6 : Hid (nn + 1 ≤ 65536) := by rw [hnn]; exact h6
 rw [← hnn] at HR
 rw [← hnn]
 have c37 : (sz7 x)[37]? = some (.int .i64 (x.own : Int)) := (Zbz x ok.hk.1).2.2.2.2.2.1
 have HC37 := Za c37
 have HXN : Hid ((sz7 (own1 x)).length = 39) := Zw _ ok.hk.1
 have HXL : Hid ((Tryz.prog.info? 116).map (·.size) = some (sz7 (own1 x)).length) := by show _ = _; rw [HXN.out]; exact Zbr
 have HX1 := Za (Zcf (Zlc ok))
 have HFM : Hid ((ss ++ [own1 x]).flatMap sz7 = ss.flatMap sz7 ++ sz7 (own1 x)) := by show _ = _; simp
 generalize hX : sz7 (own1 x) = X at HXN HXL HX1 HFM
 have HX := Za hX
 generalize hY : sz7 x = Y at HC37
 have HY := Za hY
 have hn6 : nn ≤ 65536 := by have := H6.out; omega
 clear h hv hvb ok hk hb hnn h6 c37 hX hY
 go_enter Tryz.func69, Tryz.ntmps69
 go_upto_region 2 with (first
  | ((with_reducible refine Zo 3 ?_); refine Zc _ rfl _ _ rfl _ rfl ?_; intro w1 b3 hg3 hl3 B3 q3; have HB3 := Za B3; have HG3 := Za hg3; have HQ3 := Za q3; have c37 : w1.cell? ⟨b3, 37, none⟩ = some (.int .i64 (x.own : Int)) := (by rw [B3.cell]; simpa using HC37.out); have f37 := B3.frozen 37; clear hg3 hl3 B3 q3))
 have HB3c : Hid (Blk (w1.setCell ⟨b3, 37, none⟩ (.int .i64 1)) b3 116 X.toArray) := by
  rw [← HX.out]
  exact Zqi (by rw [HY.out]; exact HB3.out) HOK.out.hk.1
 have gr := Zai w1 b3 37 (.int .i64 1)
 have HQ2 : Hid (Below w.heap.size w (w1.setCell ⟨b3, 37, none⟩ (.int .i64 1))) := Zd HQ3.out gr HG3.out
 generalize w1.setCell ⟨b3, 37, none⟩ (.int .i64 1) = w2 at *
 have HR2 := Za (HR.out.grow HQ2.out)
 have HS7 : Hid (∀ w', Below w2.heap.size w2 w' → w'.cell? ⟨g, 2, none⟩ = some (.slice pa nn pc) ∧ w'.frozen? ⟨g, 2, none⟩ = false ∧ w'.rangeAt b3 0 X) := fun w' hb => ⟨(HR2.out.grow hb).c2, (HR2.out.grow hb).blk.frozen 2, by have := (HB3c.out.grow hb).range; simpa using this⟩
 have HNB : Hid (∀ k ∈ rsB g (.slice pa nn pc) (.slice fa 0 fc) ss, k ≠ b3) := fun k hk e => by
  have h1 := HR.out.lts k hk
  have h2 := HG3.out
  omega
 have HS75 : Hid (∀ w4 w5, Below w2.heap.size w2 w4 → w4.grownBy w5 (Value.slice pa nn pc).ownBlock → w5.cell? ⟨g, 2, none⟩ = some (.slice pa nn pc) ∧ w5.frozen? ⟨g, 2, none⟩ = false ∧ w5.rangeAt b3 0 X) := fun w4 w5 hb hg => by
  have m1 : Mod (Value.slice pa nn pc).ownBlock.toList w4 w5 := Mod.of_grown hg (fun k hk => by simp [hk])
  have hS : ∀ k ∈ (Value.slice pa nn pc).ownBlock.toList, (Value.slice pa nn pc).ownBlock = some k := fun k hk => by simpa using hk
  have h4 := HR2.out.grow hb
  have b1 := h4.blk.mod m1 (fun e => Zq h4.sps h4.blk Zrs (hS g e))
  have b2 := (HB3c.out.grow hb).mod m1 (fun e => HNB.out b3 (Zu.2 (.inr (.inl (hS b3 e)))) rfl)
  refine ⟨by rw [b1.cell]; rfl, b1.frozen 2, by have := b2.range; simpa using this⟩
 have c3 := HR2.out.c3
 have HF : Hid (∀ w4 w5 a5 c5, Below w2.heap.size w2 w4 → Lst w5 116 39 (.slice a5 (nn + 1) c5) (nn + 1) (ss.flatMap sz7 ++ X) → w4.grownBy w5 (Value.slice pa nn pc).ownBlock → WhereL w4 (.slice pa nn pc) (.slice a5 (nn + 1) c5) → RT7 w0 g (rsB g (.slice pa nn pc) (.slice fa 0 fc) ss) room (ss ++ [own1 x]) [] (w5.setCell ⟨g, 2, none⟩ (.slice a5 (nn + 1) c5)) ∧ (w5.setCell ⟨g, 2, none⟩ (.slice a5 (nn + 1) c5)).cell? ⟨g, 2, none⟩ = some (.slice a5 (nn + 1) c5) ∧ Mod (rsB g (.slice pa nn pc) (.slice fa 0 fc) ss) w (w5.setCell ⟨g, 2, none⟩ (.slice a5 (nn + 1) c5))) := fun w4 w5 a5 c5 hb hl hg hw => by
  have h4 := HR2.out.grow hb
  have hbb := Zb HQ2.out hb
  obtain ⟨hr, hm⟩ := h4.newP (s' := own1 x) (w2 := w5.setCell ⟨g, 2, none⟩ (.slice a5 (nn + 1) c5)) (by rw [HFM.out, List.length_append, List.length_singleton, ← HNN.out]; exact hl) hg rfl (Zlc HOK.out) (fun e => absurd e HK.out) (by obtain ⟨sp, ho⟩ := HV.out; exact ⟨sp, ho.grow hbb⟩) (by rw [← HNN.out]; exact H6.out)
  have hmm := hm.mono (S' := rsB g (.slice pa nn pc) (.slice fa 0 fc) ss) (fun k hk => by
   rcases List.mem_cons.1 hk with rfl | hk
   ·exact Zu.2 (.inl rfl)
   ·exact Zu.2 (.inr (.inl (by simpa using hk))))
  refine ⟨⟨_, _, hr, ?_, fun k hk => ?_⟩, hr.c2, (Mod.of_below hbb _).trans' hmm⟩
  ·have h1 : Below w0.heap.size w0 w4 := Zb HBB.out hbb
   exact (Mod.of_below h1 _).trans' hmm
  ·rcases Zu.1 hk with rfl | hk | hk | ⟨s, hs, hk⟩
   ·exact .inl (Zu.2 (.inl rfl))
   ·rcases hw with e | ⟨q, e, hq⟩
    ·exact .inl (Zu.2 (.inr (.inl (by rw [← e]; exact hk))))
    ·rw [e] at hk
     injection hk with hk
     have := hbb.size
     have := HBB.out.size
     exact .inr (by omega)
   ·exact .inl (Zu.2 (.inr (.inr (.inl hk))))
   ·rcases List.mem_append.1 hs with hs | hs
    ·exact .inl (Zu.2 (.inr (.inr (.inr ⟨s, hs, hk⟩))))
    ·obtain rfl : s = own1 x := by simpa using hs
     exact .inr (HVB.out k hk)
 clear gr c37 f37
 go_wp2_with fail
 refine Zy (S := fun w' => w'.cell? ⟨g, 2, none⟩ = some (.slice pa nn pc) ∧ w'.frozen? ⟨g, 2, none⟩ = false ∧ w'.rangeAt b3 0 X) 10 (by kernel_rfl) (HS7.out _ (below_drewN (Below.refl _ _) 1)) (fun hHeld => ?_)
 refine tlp 0 (.pointer (some ⟨g, 0, none⟩)) hHeld ?_
 simp only [zq]
 refine tlp 1 (.pointer (some ⟨g, 0, none⟩)) hHeld ?_
 simp only [zq]
 refine tlp 2 (.pointer (some ⟨g, 0, none⟩)) hHeld ?_
 simp only [zq]
 refine tlp 3 (.pointer (some ⟨g, 2, none⟩)) hHeld ?_
 simp only [zq]
 refine Zi (i := 4) (v := .slice pa nn pc) rfl (by kernel_rfl) (by kernel_rfl) (by kernel_rfl) (by kernel_rfl) (by kernel_rfl) (fun _ _ _ h => h) (Or.inl ⟨by rfl, fun w hS => by (have q1 := hS.1; go_simp)⟩) hHeld ?_
 simp only [zq]
 refine Zi (i := 5) (v := .agg X.toArray) rfl (by kernel_rfl) (by kernel_rfl) (by kernel_rfl) (by kernel_rfl) (by kernel_rfl) (fun _ _ _ h => h) (yieldsIf_load_mid rfl 116 (.tmp 3) rfl b3 0 rfl X _ (fun w hS => hS.2.2) Tryz.underlying116 rfl HXL.out) hHeld ?_
 simp only [zq]
 refine Zac (i := 6) rfl (by kernel_rfl) (fun KQ hK => ?_)
 have a4 : Below w2.heap.size w2 (w2.drew.alloc (.cells X.toArray 116)) := Zb (below_drewN (Below.refl w2.heap.size w2) 1) (Zg w2.drew (.cells X.toArray 116))
 refine Zyk _ rfl _ rfl X rfl HXN.out ?_
 refine hK.out _ _ (HS7.out _ a4) (fun hHeld => ?_)
 clear hK KQ
 have HR4 := Za (HR2.out.grow a4)
 refine Zac (i := 7) rfl (by kernel_rfl) (fun KQ hK => ?_)
 refine Zmb _ rfl _ _ _ rfl 116 39 104 Tryz.underlying68 Zqr (by omega) _ nn (ss.flatMap sz7) rfl (by have := HR4.out.sps; rw [← HNN.out] at this; exact this) w2.drew.heap.size X rfl (Blk.new _ _ _) HXN.out HX1.out (by have := H6.out; simp only [maxLen]; omega) (by have := H6.out; omega) ?_
 intro v5 w5 l5 g5 wh5
 have hS5 := HS75.out _ w5 a4 g5
 obtain ⟨a5, c5, rfl⟩ := Zm l5
 refine hK.out _ _ hS5 (fun hHeld => ?_)
 clear hK KQ
 refine tlp 8 (.pointer (some ⟨g, 0, none⟩)) hHeld ?_
 simp only [zq]
 refine tlp 9 (.pointer (some ⟨g, 2, none⟩)) hHeld ?_
 simp only [zq]
 obtain ⟨hc1, hc2, _⟩ := hHeld
 refine Zad rfl (by kernel_rfl) (by kernel_rfl) (fun KQ hK => ?_)
 go_simp
 
 refine hK.out _ _ ?_
 clear hK KQ
 obtain ⟨hrt, hcl, hmd⟩ := HF.out _ _ _ _ a4 l5 g5 wh5
 have HRT := Za hrt
 have HMD := Za hmd
 generalize w5.setCell ⟨g, 2, none⟩ (.slice a5 (nn + 1) c5) = w6 at *
 clear hc1 hc2 hS5 l5 g5 wh5 hrt a4 hmd
 go_wp2
 go_ret
 exact ⟨by simp, HRT.out, HMD.out⟩
theorem Zrz {w0 w : World} {g : Nat} {vp vf : Value} {room : Nat} {ss : List Sp} {fr0 : List Nat} {i : Nat} (hb : Below w0.heap.size w0 w) (h : Rs w g vp vf room ss (fr0 ++ [i + 1])) (hi : i < ss.length) (x : Sp) (ok : SpOk x) (hk : x.kind ≠ 0) (hv : ∃ sp, Own 0 w x.val x.bs sp) (hvb : ∀ k, x.val.ownBlock = some k → w0.heap.size ≤ k) : Calls Tryz.prog 69 #[.pointer (some ⟨g, 0, none⟩), .agg (sz7 x).toArray] w fun e w' => e = .returned (.int .i64 ((i + 1 : Nat) : Int)) ∧ RT7 w0 g (rsB g vp vf ss) room (ss.set i (own1 x)) fr0 w' ∧ Mod (rsB g vp vf ss) w w' := by
 obtain ⟨b, c, rfl, hcap⟩ := Zbs h.sps (by omega)
 obtain ⟨bf, fc, rfl, hfcap⟩ := Zbs h.frs (by simp)
 have HR := Za h
 have HV := Za hv
 have HVB := Za hvb
 have HOK := Za ok
 have HK := Za hk
 have HBB := Za hb
 obtain ⟨nn, hnn⟩ : ∃ n, n = ss.length := ⟨_, rfl⟩
 have HNN := Za hnn
 obtain ⟨nf, hnf⟩ : ∃ n, n = fr0.length := ⟨_, rfl⟩
 have HNF := Za hnf
 rw [← hnn] at HR hcap
 rw [← hnn]
 have hfl : (fr0 ++ [i + 1]).length = nf + 1 := by rw [List.length_append, hnf]; rfl
 rw [hfl] at HR hfcap
 rw [hfl]
 have hf6 := h.few
 rw [hfl] at hf6
 have HIL : Hid (i < nn) := by rw [hnn]; exact hi
 have c37 : (sz7 x)[37]? = some (.int .i64 (x.own : Int)) := (Zbz x ok.hk.1).2.2.2.2.2.1
 have HC37 := Za c37
 have HXN : Hid ((sz7 (own1 x)).length = 39) := Zw _ ok.hk.1
 have HXL : Hid ((Tryz.prog.info? 116).map (·.size) = some (sz7 (own1 x)).length) := by show _ = _; rw [HXN.out]; exact Zbr
 have HX1 := Za (Zcf (Zlc ok))
 generalize hX : sz7 (own1 x) = X at HXN HXL HX1
 have HX := Za hX
 generalize hY : sz7 x = Y at HC37
 have HY := Za hY
 obtain ⟨hq, hqe⟩ : ∃ q : Int, q = ((i + 1 : Nat) : Int) := ⟨_, rfl⟩
 have HQE := Za hqe
 rw [← hqe]
 have hi7 : i ≤ 70000 := Nat.le_trans (Nat.le_of_lt hi) (Nat.le_trans hf6.1 (by decide))
 have hq1 : wrap64 (hq - 1) = (i : Int) := by rw [hqe, Go.IntWalk.wrap64_in _ (by have := HIL.out; have := hf6.1; omega)]; omega
 have hq2 : IntKind.i64.wrap (hq - 1) = (i : Int) := by rw [show hq - 1 = (i : Int) by omega]; exact Ztf i hi7
 have hi6 : i < 65536 := by have := hf6.1; omega
 have i0 : (0 : Int) ≤ (i : Int) := by omega
 have i1 : (i : Int) < (nn : Int) := by have := HIL.out; omega
 have i2 : i < nn := HIL.out
 have f0 : (0 : Int) ≤ (nf : Int) := by omega
 have f1 : (nf : Int) < (nf : Int) + 1 := by omega
 have f2 : (nf : Int) ≤ (fc : Int) := by omega
 have f3 : (0 : Int) < (nf : Int) + 1 := by omega
 have hnf6 : nf ≤ 65536 := by have := hf6.2; omega
 have hwn : wrap64 (nf : Int) = (nf : Int) := Go.IntWalk.wrap64_in _ (by omega)
 have hwn2 : IntKind.i64.wrap (nf : Int) = (nf : Int) := Ztf nf (Nat.le_trans hnf6 (by decide))
 clear h hv hvb ok hk hb hnn hnf c37 hX hY hqe hf6 hcap hfcap hi
 go_enter Tryz.func69, Tryz.ntmps69
 go_upto_region 2 with (first
  | ((with_reducible refine Zo 3 ?_); refine Zc _ rfl _ _ rfl _ rfl ?_; intro w1 b3 hg3 hl3 B3 q3; have HB3 := Za B3; have HG3 := Za hg3; have HQ3 := Za q3; have c37 : w1.cell? ⟨b3, 37, none⟩ = some (.int .i64 (x.own : Int)) := (by rw [B3.cell]; simpa using HC37.out); have f37 := B3.frozen 37; clear hg3 hl3 B3 q3))
 have HB3c : Hid (Blk (w1.setCell ⟨b3, 37, none⟩ (.int .i64 1)) b3 116 X.toArray) := by
  rw [← HX.out]
  exact Zqi (by rw [HY.out]; exact HB3.out) HOK.out.hk.1
 have gr := Zai w1 b3 37 (.int .i64 1)
 have HQ2 : Hid (Below w.heap.size w (w1.setCell ⟨b3, 37, none⟩ (.int .i64 1))) := Zd HQ3.out gr HG3.out
 generalize w1.setCell ⟨b3, 37, none⟩ (.int .i64 1) = w2 at *
 have HR2 := Za (HR.out.grow HQ2.out)
 have c3 := HR2.out.c3
 have HCL : Hid (∀ w', Below w2.heap.size w2 w' → w'.cell? ⟨bf, nf, none⟩ = some (.int .i64 hq)) := fun w' hb => by
  have h0 := (HR2.out.grow hb).frs
  rw [hfl] at h0
  rw [Zck h0 nf (by omega), HQE.out, Zav, List.getElem?_append_right (by rw [Zdy, ← HNF.out]; exact Nat.le_refl _), Zdy, ← HNF.out, Nat.sub_self]
  rfl
 have HS3 : Hid (w2.drew.cell? ⟨g, 3, none⟩ = some (.slice (some ⟨bf, 0, none⟩) (nf + 1) fc) ∧ w2.drew.cell? ⟨bf, nf, none⟩ = some (.int .i64 hq)) := ⟨c3, HCL.out _ (below_drewN (Below.refl _ _) 1)⟩
 clear gr c37 f37
 go_wp2_with fail
 refine wp_region_held_drew (S := fun w' => w'.cell? ⟨g, 3, none⟩ = some (.slice (some ⟨bf, 0, none⟩) (nf + 1) fc) ∧ w'.cell? ⟨bf, nf, none⟩ = some (.int .i64 hq)) (by kernel_rfl) (HS3.out) (fun hHeld => ?_)
 refine tkp 0 (.pointer (some ⟨g, 0, none⟩)) hHeld ?_
 simp only [zq]
 refine tkp 1 (.pointer (some ⟨g, 0, none⟩)) hHeld ?_
 simp only [zq]
 refine tkp 2 (.pointer (some ⟨g, 3, none⟩)) hHeld ?_
 simp only [zq]
 refine tkg 3 (.slice (some ⟨bf, 0, none⟩) (nf + 1) fc) rfl (Or.inl ⟨by rfl, fun w hS => by (have q1 := hS.1; go_simp)⟩) hHeld ?_
 simp only [zq]
 refine tkp 4 (.pointer (some ⟨g, 0, none⟩)) hHeld ?_
 simp only [zq]
 refine tkp 5 (.pointer (some ⟨g, 0, none⟩)) hHeld ?_
 simp only [zq]
 refine tkp 6 (.pointer (some ⟨g, 3, none⟩)) hHeld ?_
 simp only [zq]
 refine tkg 7 (.slice (some ⟨bf, 0, none⟩) (nf + 1) fc) rfl (Or.inl ⟨by rfl, fun w hS => by (have q1 := hS.1; go_simp)⟩) hHeld ?_
 simp only [zq]
 refine tkp 8 (.int .i64 ((nf : Int) + 1)) hHeld ?_
 simp only [zq]
 refine tkp 9 (.int .i64 (nf : Int)) hHeld ?_
 simp only [zq]
 refine tkp 10 (.pointer (some ⟨bf, nf, none⟩)) hHeld ?_
 simp only [zq]
 refine tkg 11 (.int .i64 hq) rfl (Or.inl ⟨by rfl, fun w hS => by (have q1 := hS.2; go_simp)⟩) hHeld ?_
 simp only [zq]
 refine tkp 12 (.int .i64 hq) hHeld ?_
 simp only [zq]
 refine wpAnyH_done (by kernel_rfl) ?_ _
 clear hHeld
 have HQ3' : Hid (Below w2.heap.size w2 w2.drew.drew) := below_drewN (Below.refl _ _) 2
 have HS4 : Hid (w2.drew.drew.cell? ⟨g, 3, none⟩ = some (.slice (some ⟨bf, 0, none⟩) (nf + 1) fc) ∧ w2.drew.drew.frozen? ⟨g, 3, none⟩ = false) := ⟨(HR2.out.grow HQ3'.out).c3, (HR2.out.grow HQ3'.out).blk.frozen 3⟩
 go_wp2_with fail
 refine Zy (S := fun w' => w'.cell? ⟨g, 3, none⟩ = some (.slice (some ⟨bf, 0, none⟩) (nf + 1) fc) ∧ w'.frozen? ⟨g, 3, none⟩ = false) 14 (by kernel_rfl) (HS4.out) (fun hHeld => ?_)
 refine tlp 0 (.pointer (some ⟨g, 0, none⟩)) hHeld ?_
 simp only [zq]
 refine tlp 1 (.pointer (some ⟨g, 0, none⟩)) hHeld ?_
 simp only [zq]
 refine tlp 2 (.pointer (some ⟨g, 0, none⟩)) hHeld ?_
 simp only [zq]
 refine tlp 3 (.pointer (some ⟨g, 3, none⟩)) hHeld ?_
 simp only [zq]
 refine Zi (i := 4) (v := .slice (some ⟨bf, 0, none⟩) (nf + 1) fc) rfl (by kernel_rfl) (by kernel_rfl) (by kernel_rfl) (by kernel_rfl) (by kernel_rfl) (fun _ _ _ h => h) (Or.inl ⟨by rfl, fun w hS => by (have q1 := hS.1; go_simp)⟩) hHeld ?_
 simp only [zq]
 refine tlp 5 (.pointer (some ⟨g, 0, none⟩)) hHeld ?_
 simp only [zq]
 refine tlp 6 (.pointer (some ⟨g, 0, none⟩)) hHeld ?_
 simp only [zq]
 refine tlp 7 (.pointer (some ⟨g, 3, none⟩)) hHeld ?_
 simp only [zq]
 refine Zi (i := 8) (v := .slice (some ⟨bf, 0, none⟩) (nf + 1) fc) rfl (by kernel_rfl) (by kernel_rfl) (by kernel_rfl) (by kernel_rfl) (by kernel_rfl) (fun _ _ _ h => h) (Or.inl ⟨by rfl, fun w hS => by (have q1 := hS.1; go_simp)⟩) hHeld ?_
 simp only [zq]
 refine tlp 9 (.int .i64 ((nf : Int) + 1)) hHeld ?_
 simp only [zq]
 refine tlp 10 (.int .i64 (nf : Int)) hHeld ?_
 simp only [zq]
 refine tlp 11 (.slice (some ⟨bf, 0, none⟩) nf fc) hHeld ?_
 simp only [zq]
 refine tlp 12 (.pointer (some ⟨g, 0, none⟩)) hHeld ?_
 simp only [zq]
 refine tlp 13 (.pointer (some ⟨g, 3, none⟩)) hHeld ?_
 simp only [zq]
 obtain ⟨hc1, hc2⟩ := hHeld
 refine Zad rfl (by kernel_rfl) (by kernel_rfl) (fun KQ hK => ?_)
 go_simp
 
 refine hK.out _ _ ?_
 clear hK KQ
 have HR5 : Hid (Rs (w2.setCell ⟨g, 3, none⟩ (.slice (some ⟨bf, 0, none⟩) nf fc)).drew.drew g (.slice (some ⟨b, 0, none⟩) nn c) (.slice (some ⟨bf, 0, none⟩) nf fc) room ss fr0) := (HR2.out.grow HQ3'.out).popF HNF.out
 have HM5 : Hid (Mod [g] w2 (w2.setCell ⟨g, 3, none⟩ (.slice (some ⟨bf, 0, none⟩) nf fc)).drew.drew) := (Mod.of_below HQ3'.out _).trans' (Mod.setCell w2.drew.drew g 3 _ (by simp))
 have HNG : Hid (b3 ≠ g) := fun e => by
  have h1 := HR.out.blk.lt
  have h2 := HG3.out
  omega
 have HB5 : Hid (Blk (w2.setCell ⟨g, 3, none⟩ (.slice (some ⟨bf, 0, none⟩) nf fc)).drew.drew b3 116 X.toArray) := HB3c.out.mod HM5.out (by simpa using HNG.out)
 generalize (w2.setCell ⟨g, 3, none⟩ (.slice (some ⟨bf, 0, none⟩) nf fc)).drew.drew = w5 at *
 have HQ5 : Hid (Below w5.heap.size w5 w5.drew) := below_drewN (Below.refl _ _) 1
 have HS5 : Hid (w5.drew.cell? ⟨g, 2, none⟩ = some (.slice (some ⟨b, 0, none⟩) nn c) ∧ w5.drew.rangeAt b3 0 X) := ⟨HR5.out.c2, by have := (HB5.out.grow HQ5.out).range; simpa using this⟩
 have HLP : Hid (Lst w5.drew 116 39 (.slice (some ⟨b, 0, none⟩) nn c) nn (ss.flatMap sz7)) := by have := (HR5.out.grow HQ5.out).sps; rw [← HNN.out] at this; exact this
 have HF : Hid (∀ w6, Lst w6 116 39 (.slice (some ⟨b, 0, none⟩) nn c) nn (setL (ss.flatMap sz7) (i * 39) X) → Mod [b] w5.drew w6 → RT7 w0 g (rsB g (.slice (some ⟨b, 0, none⟩) nn c) (.slice (some ⟨bf, 0, none⟩) (nf + 1) fc) ss) room (ss.set i (own1 x)) fr0 w6 ∧ Mod (rsB g (.slice (some ⟨b, 0, none⟩) nn c) (.slice (some ⟨bf, 0, none⟩) (nf + 1) fc) ss) w w6) := fun w6 l6 m6 => by
  have hil : i < ss.length := by rw [← HNN.out]; exact HIL.out
  have hv5 : ∃ sp, Own 0 w5.drew x.val x.bs sp := by
   obtain ⟨sp, ho⟩ := HV.out
   refine ⟨sp, ((ho.grow HQ2.out).mod HM5.out (fun k hk e => ?_)).grow HQ5.out⟩
   obtain rfl : k = g := by simpa using e
   obtain ⟨_, hb2⟩ := (ho.grow HQ2.out).blk k hk
   exact hb2.ne HR2.out.blk Ycm rfl
  have hr := (HR5.out.grow HQ5.out).putS i hil (own1 x) (Zlc HOK.out) (fun e => absurd e HK.out) hv5 (by rw [HX.out]; exact l6) m6
  have hfin : ∀ wx, Below wx.heap.size wx w → Mod (rsB g (.slice (some ⟨b, 0, none⟩) nn c) (.slice (some ⟨bf, 0, none⟩) (nf + 1) fc) ss) wx w6 := fun wx hbx => by
   have h1 : Mod (rsB g (.slice (some ⟨b, 0, none⟩) nn c) (.slice (some ⟨bf, 0, none⟩) (nf + 1) fc) ss) wx w2 := Mod.of_below (Zb hbx HQ2.out) _
   refine ((h1.trans' (HM5.out.mono fun k hk => ?_)).trans' (Mod.of_below HQ5.out _)).trans' (m6.mono fun k hk => ?_)
   ·obtain rfl : k = g := by simpa using hk
    exact Zu.2 (.inl rfl)
   ·obtain rfl : k = b := by simpa using hk
    exact Zu.2 (.inr (.inl rfl))
  refine ⟨⟨_, _, hr, hfin w0 HBB.out, fun k hk => ?_⟩, hfin w (Below.refl _ _)⟩
  ·rcases Zu.1 hk with rfl | hk | hk | ⟨s, hs, hk⟩
   ·exact .inl (Zu.2 (.inl rfl))
   ·exact .inl (Zu.2 (.inr (.inl hk)))
   ·exact .inl (Zu.2 (.inr (.inr (.inl hk))))
   ·rcases Zci hs with rfl | hs
    ·exact .inr (HVB.out k hk)
    ·exact .inl (Zu.2 (.inr (.inr (.inr ⟨s, hs, hk⟩))))
 clear hc1 hc2
 go_wp2_with fail
 refine Zy (S := fun w' => w'.cell? ⟨g, 2, none⟩ = some (.slice (some ⟨b, 0, none⟩) nn c) ∧ w'.rangeAt b3 0 X) 8 (by kernel_rfl) (HS5.out) (fun hHeld => ?_)
 refine tlp 0 (.pointer (some ⟨g, 0, none⟩)) hHeld ?_
 simp only [zq]
 refine tlp 1 (.pointer (some ⟨g, 0, none⟩)) hHeld ?_
 simp only [zq]
 refine tlp 2 (.pointer (some ⟨g, 2, none⟩)) hHeld ?_
 simp only [zq]
 refine Zi (i := 3) (v := .slice (some ⟨b, 0, none⟩) nn c) rfl (by kernel_rfl) (by kernel_rfl) (by kernel_rfl) (by kernel_rfl) (by kernel_rfl) (fun _ _ _ h => h) (Or.inl ⟨by rfl, fun w hS => by (have q1 := hS.1; go_simp)⟩) hHeld ?_
 simp only [zq]
 refine tlp 4 (.int .i64 hq) hHeld ?_
 simp only [zq]
 refine tlp 5 (.int .i64 (i : Int)) hHeld ?_
 simp only [zq]
 refine Zi (i := 6) (v := .agg X.toArray) rfl (by kernel_rfl) (by kernel_rfl) (by kernel_rfl) (by kernel_rfl) (by kernel_rfl) (fun _ _ _ h => h) (yieldsIf_load_mid rfl 116 (.tmp 3) rfl b3 0 rfl X _ (fun w hS => hS.2) Tryz.underlying116 rfl HXL.out) hHeld ?_
 simp only [zq]
 refine tlp 7 (.pointer (some ⟨b, i * 39, none⟩)) hHeld ?_
 simp only [zq]
 refine Zad rfl (by kernel_rfl) (by kernel_rfl) (fun KQ hK => ?_)
 refine Zhk _ rfl _ _ _ rfl 116 39 nn c b (i * 39) (ss.flatMap sz7) X rfl rfl HLP.out HXL.out (by rw [HXN.out]; have := HIL.out; have := HNN.out; omega) HX1.out ?_
 intro w6 l6 m6 s6
 refine hK.out _ _ ?_
 clear hK KQ
 have HRT := Za (HF.out w6 l6 m6)
 clear hHeld l6 m6 s6
 go_wp2
 go_ret
 exact ⟨rfl, HRT.out.1, HRT.out.2⟩
theorem Zjt {w0 w : World} {g : Nat} {vp vf : Value} {room : Nat} {ss : List Sp} {fr : List Nat} (hb : Below w0.heap.size w0 w) (h : Rs w g vp vf room ss fr) (hfr : ∀ s ∈ fr, 1 ≤ s ∧ s ≤ ss.length) (x : Sp) (ok : SpOk x) (hk : x.kind ≠ 0) (hv : ∃ sp, Own 0 w x.val x.bs sp) (hvb : ∀ k, x.val.ownBlock = some k → w0.heap.size ≤ k) (h6 : ss.length + 1 ≤ 65536) : Calls Tryz.prog 69 #[.pointer (some ⟨g, 0, none⟩), .agg (sz7 x).toArray] w fun e w' => e = .returned (.int .i64 (tkH ss fr : Int)) ∧ RT7 w0 g (rsB g vp vf ss) room (tkC ss fr (own1 x)) fr.dropLast w' ∧ Mod (rsB g vp vf ss) w w' := by
 rcases Zes ss fr with ⟨s, fr0, rfl, e1, e2⟩ | ⟨rfl, e1, e2⟩
 ·obtain ⟨s1, s2⟩ := hfr s (by simp)
  obtain ⟨i, rfl⟩ : ∃ i, s = i + 1 := ⟨s - 1, by omega⟩
  rw [e1, e2, Nat.add_sub_cancel, List.dropLast_concat]
  exact Zrz hb h (by omega) x ok hk hv hvb
 ·rw [e1, e2]
  exact Zsa hb h x ok hk hv hvb h6
end Go.Proofs.YtbkolhhgajkjjaaGreatDoor
