/- The document's Bit, Set, Common, Compare (rootcellarref04), as contracts. -/
import Derived.Test.YtgfdgjkbcdmboabGreatDoorLk06
import Derived.Test.YtgfdgjkbcdmboabGreatDoorLk27
import Derived.Test.YtgfdgjkbcdmboabGreatDoorLk25
import Derived.Test.YtgfdgjkbcdmboabGreatDoorLk24
namespace Go.Proofs.YtgfdgjkbcdmboabGreatDoor
set_option maxRecDepth 20000
open Go.RowKit

theorem half_step (x : Int) (k : Nat) : x / 2 ^ k / 2 = x / 2 ^ (k + 1) := by
  rw [Int.pow_succ, Int.ediv_ediv_of_nonneg (Int.pow_nonneg (by omega))]

set_option maxHeartbeats 2000000 in
theorem rbit_in (xs : List Int) (d : Nat) (w : World) (hx : Key xs) (hd : d < 256) : Calls Tryz.prog 162 #[.agg (B xs), .int .i64 d] w fun e w' => e = .returned (.int .i64 (kb xs d)) ∧ Below w.heap.size w w' := by
  have HX := hidden hx
  have h2 : ((d / 8 : Nat) : Int) < 32 := by omega
  have hb := hx.byte (d / 8)
  have t0 : decide ((d : Int) < 0) = false := decide_eq_false (by omega)
  have t1 : decide ((256 : Int) ≤ (d : Int)) = false := decide_eq_false (by omega)
  obtain ⟨x, hxx⟩ : ∃ x, x = xs.getD (d / 8) 0 := ⟨_, rfl⟩
  have HK : Hid (kb xs d = x / 2 ^ (7 - d % 8) % 2) := by rw [hxx]; rfl
  rw [← hxx] at hb
  have hwx : wrap64 x = x := Go.IntWalk.wrap64_in _ (by omega)
  have HXX := hidden hxx
  clear hx hxx
  go_enter Tryz.func162, Tryz.ntmps162
  go_wp2_with (refine wpList_bx _ rfl _ _ rfl _ rfl ?_; intro w1 g1 hg1 hl1 B1 b1; have c1 := B1.bcell (d / 8) (by rw [HX.out.1]; omega); rw [← HXX.out] at c1)
  clear c1 B1
  have hm : d % 8 < 8 := Nat.mod_lt _ (by omega)
  go_loopw [5, 6] (fun s i wr => ∃ (k : Nat) (v : Int), k ≤ 7 - d % 8 ∧ s = .int .i64 v ∧ i = .int .i64 k ∧ Hid (v = x / 2 ^ k) ∧ 0 ≤ v ∧ v ≤ 255 ∧ wr = w1) (fun _ i _ => 8 - (intOf i).toNat)
  case atStart => exact ⟨0, x, by omega, rfl, rfl, by show _ = _; simp, hb.1, hb.2, rfl⟩
  case round =>
    obtain ⟨k, v, hk, rfl, rfl, hv, hv0, hv1, hwr⟩ := hrel
    subst hwr
    by_cases hlt : k < 7 - d % 8
    · have hlt' : (k : Int) < 7 - (d : Int) % 8 := by omega
      go_wp2
      exact ⟨⟨k + 1, v / 2, by omega, by go_num, by go_num, by show _ = _; rw [hv.out, half_step], by omega, by omega, trivial⟩, by simp [intOf]; omega⟩
    · have hlt' : decide ((k : Int) < 7 - (d : Int) % 8) = false := decide_eq_false (by omega)
      obtain rfl : k = 7 - d % 8 := by omega
      go_wp2
      go_ret
      exact ⟨by rw [HK.out, ← hv.out]; rfl, b1⟩

set_option maxHeartbeats 1000000 in
theorem rbit_out (xs : List Int) (d : Int) (w : World) (hd : ¬ (0 ≤ d ∧ d < 256)) : Calls Tryz.prog 162 #[.agg (B xs), .int .i64 d] w fun e w' => e = .returned (.int .i64 (-1)) ∧ Below w.heap.size w w' := by
  by_cases h0 : d < 0
  · have t0 : decide (d < 0) = true := decide_eq_true h0
    clear hd h0
    go_enter Tryz.func162, Tryz.ntmps162
    go_wp2_with (refine wpList_bx _ rfl _ _ rfl _ rfl ?_; intro w1 g1 hg1 hl1 B1 b1)
    go_ret
    exact ⟨rfl, b1⟩
  · have t0 : decide (d < 0) = false := decide_eq_false h0
    have t1 : decide (256 ≤ d) = true := decide_eq_true (by omega)
    clear hd h0
    go_enter Tryz.func162, Tryz.ntmps162
    go_wp2_with (refine wpList_bx _ rfl _ _ rfl _ rfl ?_; intro w1 g1 hg1 hl1 B1 b1)
    go_ret
    exact ⟨rfl, b1⟩

theorem rbit_any (xs : List Int) (d : Int) (w : World) (hx : Key xs) : Calls Tryz.prog 162 #[.agg (B xs), .int .i64 d] w fun e w' => e = .returned (.int .i64 (kbi xs d)) ∧ Below w.heap.size w w' := by
  unfold kbi
  by_cases h : 0 ≤ d ∧ d < 256
  · rw [if_pos h]
    have e : d = ((d.toNat : Nat) : Int) := by omega
    have := rbit_in xs d.toNat w hx (by omega)
    rw [← e] at this
    exact this
  · rw [if_neg h]
    exact rbit_out xs d w h

end Go.Proofs.YtgfdgjkbcdmboabGreatDoor

/- The document's side of entries, as a contract; entries appended one by one. -/
namespace Go.Proofs.YtgfdgjkbcdmboabGreatDoor
set_option maxRecDepth 20000
open Go.RowKit

theorem side_step (es : List Ent) (k d : Nat) (b : Int) (hk : k < es.length) : sideOf (es.take (k + 1)) d b = sideOf (es.take k) d b ++ (if (kbi (es.getD k e00).1 d == b) = true then [es.getD k e00] else []) := by
  unfold sideOf
  rw [List.take_add_one, List.filter_append]
  congr 1
  simp [List.getD, hk, List.filter_cons]

def SidePost (es : List Ent) (d : Nat) (b : Int) (w : World) (e : Ending) (w' : World) : Prop := ∃ v V, e = .returned v ∧ PrAt w' v V (sideOf es d b) ∧ Below w.heap.size w w'

theorem below_own {w0 w w' : World} {base n : Nat} {v : Value} {xs : List Value} (hb : Below w0.heap.size w0 w) (ho : w.ownsRow base 66 33 v n xs) (hbase : w0.heap.size ≤ base) (hg : w.grownBy w' v.ownBlock) : Below w0.heap.size w0 w' :=
  hb.trans ⟨hg.os, hg.tape, hg.output, hg.size, fun k hk => hg.block k (Nat.lt_of_lt_of_le hk hb.size) (fun e => by have := (ho.lt k e.symm).1; omega)⟩

end Go.Proofs.YtgfdgjkbcdmboabGreatDoor

/- The law's below (the entries of the leaves below a handle), as a contract. -/
namespace Go.Proofs.YtgfdgjkbcdmboabGreatDoor
set_option maxRecDepth 20000
open Go.RowKit

theorem wpList_appL2 {P : Program} {ops : Array Oper} {rest : List Oper} {o : Oper} {a : Act} {Q : Exit → Act → World → Prop} (w : World) (hgd : o.guard = none) (s x : Operand) (t : TypeId)
    (ho : o.op = .call { callee := .builtin .append, args := #[s, x], argTypes := #[t, t] })
    (e : TypeId) (size bytes : Nat) (ht : P.underlying t = some (.slice e)) (hin : ∃ i z, P.info? e = some i ∧ i.zero = some z ∧ i.size = size ∧ i.bytes = bytes ∧ z.cells.size = size) (hsz : 0 < size)
    (v : Value) (n : Nat) (xs : List Value) (hs : a.eval s = v) (hown : Lst w e size v n xs)
    (g : Nat) (news : List Value) (hx : a.eval x = .slice (some ⟨g, 0, none⟩) 2 2) (hb : Blk w g e news.toArray) (hl : news.length = 2 * size) (h1 : ∀ u ∈ news, u.oneCell' = true)
    (h63 : n + 2 ≤ maxLen) (hbytes : (n + 2) * bytes ≤ 140737488355328)
    (hk : ∀ v' w', Lst w' e size v' (n + 2) (xs ++ news) → w.grownBy w' v.ownBlock → WhereL w v v' → wpList P ops Q rest (a.put o.dst v') w') : wpList P ops Q (o :: rest) a w := by
  refine wpList_plain hgd fun K hK => ?_
  obtain ⟨i, z, hi, hz, hsize, hby, hzs⟩ := hin
  obtain ⟨v', w', hr, h2, h3, h4⟩ := run_appL (P := P) w t o.type e i z size bytes ht hi hz hsize hby hzs hsz v n xs hown ⟨g, 0, none⟩ 2 2 news (by omega) (by
    intro j q hq
    rw [Addr.add_lit, Nat.zero_add, hb.cell]
    simpa using hq) h1 (by omega) h63 hbytes
  unfold Oper.wp execOp
  simp only [ho, resolve, invoke, builtin, Sem.run_bind, Sem.run_pure, Result.andThen_ok, List.map_toArray, List.map_cons, List.map_nil, hs, hx, hr]
  exact hK _ _ (hk v' w' h2 h3 h4)

def p7Places : Nat → Option (Nat × Nat) := fun i => (#[(0, 32), (32, 1)] : Array (Nat × Nat))[i]?

theorem built_p7Eq (ps : List (Nat × Value)) : Tryz.prog.built 66 ps = Instr.fill p7Places (encP z32 (.slice none 0 0)).toArray ps := by kernel_rfl

theorem built_p7 (K : List Int) (a : Option Addr) (n c : Nat) (hk : K.length = 32) : Tryz.prog.built 66 [(0, .agg (B K)), (1, .slice a n c)] = some (encP K (.slice a n c)).toArray := by
  rw [built_p7Eq]
  rw [fill_one p7Places 0 0 32 (.agg (B K)) (K.map (Value.int .u8)) (encP z32 (.slice none 0 0)) _ rfl (cells_b K) (by simp [hk]) (by simp [encP, z32_length])]
  have e1 : (encP z32 (.slice none 0 0)).take 0 ++ (K.map (Value.int .u8) ++ (encP z32 (.slice none 0 0)).drop (0 + 32)) = K.map (Value.int .u8) ++ [.slice none 0 0] := by simp [encP, z32]
  first
    | rw [e1]
    | skip
  rw [fill_one p7Places 1 32 1 (.slice a n c) [.slice a n c] _ _ rfl rfl rfl (by simp [hk, encP, z32_length])]
  simp [encP, Instr.fill, hk, z32]

/-! ### How much is to be done -/
def tw (ps : List (Nat × Tre)) : Nat := (ps.map fun p => 1 + 2 * p.2.num).sum

theorem tw_len : ∀ ps : List (Nat × Tre), ps.length ≤ tw ps
  | [] => Nat.le_refl _
  | p :: ps => by
    have := tw_len ps
    simp only [tw, List.map_cons, List.sum_cons, List.length_cons] at this ⊢
    omega

def dq (cs : List (Nat × Ce)) (h : Nat) : Nat := if (sdC cs h).kind = 2 then (sdC cs h).dp else 256

theorem dq_side {cs : List (Nat × Ce)} {d h : Nat} {b : Int} (hd : d < 256) (s : SideOk cs d b h) : d + 1 ≤ dq cs h := by
  unfold dq
  rcases s with rfl | ⟨h1, _, _, h4⟩
  · have e : ¬ (sdC cs 0).kind = 2 := by
      show ¬ zc.kind = 2
      decide
    rw [if_neg e]
    omega
  · obtain ⟨i, rfl⟩ : ∃ i, h = i + 1 := ⟨h - 1, by omega⟩
    rw [Nat.add_sub_cancel] at h4
    rw [show sdC cs (i + 1) = ce cs i from rfl]
    split
    · rcases h4 with h4 | ⟨_, h4⟩
      · omega
      · omega
    · omega

theorem num_le {cs : List (Nat × Ce)} {pend : List Nat} (w : Wf cs pend) : ∀ (T : Tre) (h : Nat), IsT cs h T → T.num ≤ T.ents.length * (257 - dq cs h)
  | .emp, h, _ => Nat.zero_le _
  | .lf k b, h, ⟨h1, h2, h3, _⟩ => by
    obtain ⟨i, rfl⟩ : ∃ i, h = i + 1 := ⟨h - 1, by omega⟩
    rw [Nat.add_sub_cancel] at h3
    have : dq cs (i + 1) = 256 := by
      unfold dq
      rw [show sdC cs (i + 1) = ce cs i from rfl, if_neg (by omega)]
    rw [this]
    simp [Tre.num, Tre.ents]
  | .nd d hl hr L R, h, hT => by
    have hok := tree_ok w _ h hT
    have hp := hok.pos
    obtain ⟨h1, h2, h3, h4, h5, h6, h7, h8⟩ := hT
    obtain ⟨i, rfl⟩ : ∃ i, h = i + 1 := ⟨h - 1, by omega⟩
    rw [Nat.add_sub_cancel] at h2 h3 h4 h5 h6
    have a1 := num_le w L hl h7
    have a2 := num_le w R hr h8
    rcases w.tr i h2 with hn | hn
    · have := hn.kind; omega
    have hd := hn.dp
    have b1 := dq_side hd hn.sl
    have b2 := dq_side hd hn.sr
    rw [h4] at hd b1 b2
    rw [h5] at b1
    rw [h6] at b2
    have e : dq cs (i + 1) = d := by
      unfold dq
      rw [show sdC cs (i + 1) = ce cs i from rfl, if_pos h3, h4]
    have hpos : 0 < L.ents.length + R.ents.length := by
      have := hp (by omega)
      rw [Tre.ents] at this
      rw [← List.length_append]
      exact List.length_pos_iff.2 this
    rw [e, Tre.num, Tre.ents, List.length_append]
    have c1 : L.ents.length * (257 - dq cs hl) ≤ L.ents.length * (256 - d) := Nat.mul_le_mul_left _ (by omega)
    have c2 : R.ents.length * (257 - dq cs hr) ≤ R.ents.length * (256 - d) := Nat.mul_le_mul_left _ (by omega)
    have c3 : (L.ents.length + R.ents.length) * (257 - d) = L.ents.length * (256 - d) + R.ents.length * (256 - d) + (L.ents.length + R.ents.length) := by
      rw [show 257 - d = (256 - d) + 1 by omega, Nat.mul_add, Nat.mul_one, Nat.add_mul]
    omega

theorem lst_same {w : World} {e : TypeId} {k : Nat} {v : Value} {n n' : Nat} {xs xs' : List Value} (h : Lst w e k v n xs) (h' : Lst w e k v n' xs') : xs = xs' := by
  rcases h.2 with ⟨rfl, rfl⟩ | ⟨g, cap, cur, rfl, _, hg, _, _, _, ht⟩
  · rcases h'.2 with ⟨_, rfl⟩ | ⟨_, _, _, e, _⟩
    · have h1 := h.1
      have h2 := h'.1
      rw [Nat.zero_mul] at h1 h2
      rw [List.length_eq_zero_iff.1 h1, List.length_eq_zero_iff.1 h2]
    · cases e
  · rcases h'.2 with ⟨e, _⟩ | ⟨g', cap', cur', e, _, hg', _, _, _, ht'⟩
    · cases e
    · injection e with e1 e2 e3
      injection e1 with e1
      injection e1 with e1
      subst e1 e2
      rw [hg] at hg'
      injection hg' with hg'
      injection hg' with hg'
      subst hg'
      rw [← ht, ← ht']

theorem nats_inj {a b : List Nat} (h : nats a = nats b) : a = b := by
  unfold nats at h
  refine (List.map_inj_right ?_).1 h
  intro x y e
  injection e with _ e
  omega

theorem pairs_same {cs : List (Nat × Ce)} : ∀ (ps qs : List (Nat × Tre)), ps.map (·.1) = qs.map (·.1) → (∀ p ∈ ps, IsT cs p.1 p.2) → (∀ p ∈ qs, IsT cs p.1 p.2) → ps = qs
  | [], [], _, _, _ => rfl
  | [], _ :: _, h, _, _ => by simp at h
  | _ :: _, [], h, _, _ => by simp at h
  | (a, S) :: ps, (b, U) :: qs, h, h1, h2 => by
    simp only [List.map_cons, List.cons.injEq] at h
    obtain ⟨rfl, h⟩ := h
    have e := (h1 (a, S) (by simp)).one (h2 (a, U) (by simp))
    simp only at e
    subst e
    rw [pairs_same ps qs h (fun p hp => h1 p (List.mem_cons_of_mem _ hp)) (fun p hp => h2 p (List.mem_cons_of_mem _ hp))]

theorem tw_fun (cs : List (Nat × Ce)) : ∃ mea : Value → World → Nat, ∀ (v : Value) (w : World) (n : Nat) (ps : List (Nat × Tre)), Lst w 3 1 v n (nats (ps.map (·.1)).reverse) → (∀ p ∈ ps, IsT cs p.1 p.2) → mea v w = tw ps := by
  have h : ∀ (v : Value) (w : World), ∃ m : Nat, ∀ (n : Nat) (ps : List (Nat × Tre)), Lst w 3 1 v n (nats (ps.map (·.1)).reverse) → (∀ p ∈ ps, IsT cs p.1 p.2) → m = tw ps := fun v w => by
    by_cases e : ∃ (n : Nat) (ps : List (Nat × Tre)), Lst w 3 1 v n (nats (ps.map (·.1)).reverse) ∧ (∀ p ∈ ps, IsT cs p.1 p.2)
    · obtain ⟨n, ps, h1, h2⟩ := e
      refine ⟨tw ps, fun n' qs k1 k2 => ?_⟩
      have := nats_inj (lst_same h1 k1)
      rw [pairs_same ps qs (by simpa using this) h2 k2]
    · exact ⟨0, fun n ps k1 k2 => absurd ⟨n, ps, k1, k2⟩ e⟩
  exact ⟨fun v w => Classical.choose (h v w), fun v w => Classical.choose_spec (h v w)⟩

/-- A stack of numbers and entries gathered, beside all that was there. -/
def Bl (w : World) (st : List Nat) (its : List (Ent × Value)) (vt vo : Value) (wr : World) : Prop :=
  Lst wr 3 1 vt st.length (nats st) ∧ (∀ k, vt.ownBlock = some k → w.heap.size ≤ k) ∧ wr.ownsRow w.heap.size 66 33 vo its.length (flatP its) ∧ (∀ p ∈ its, Key p.1.1 ∧ ∃ sp, Own w.heap.size wr p.2 p.1.2 sp) ∧ Below w.heap.size w wr

theorem Bl.grow {w wr w' : World} {st : List Nat} {its : List (Ent × Value)} {vt vo : Value} (h : Bl w st its vt vo wr) (hb : Below wr.heap.size wr w') : Bl w st its vt vo w' := by
  obtain ⟨h1, h2, h3, h4, h5⟩ := h
  refine ⟨lst_grow h1 hb, h2, ownsP_below h3 hb, fun p hp => ?_, grow_trans h5 hb⟩
  obtain ⟨k, sp, ho⟩ := h4 p hp
  exact ⟨k, sp, ho.grow hb⟩

theorem tneB1 : (3 : Nat) ≠ 66 := by decide

theorem tneB2 : (3 : Nat) ≠ 5 := by decide

theorem tneB3 : (66 : Nat) ≠ 5 := by decide

theorem lst_of7 {w : World} {base : Nat} {e : TypeId} {k : Nat} {v : Value} {n : Nat} {xs : List Value} (h : w.ownsRow base e k v n xs) : Lst w e k v n xs := ⟨h.1, h.2.imp id (fun ⟨g, cap, cur, a1, _, a3⟩ => ⟨g, cap, cur, a1, Nat.zero_le _, a3⟩)⟩

theorem ownsRow_mod {w w' : World} {base : Nat} {e : TypeId} {k : Nat} {v : Value} {n : Nat} {xs : List Value} {S : List Nat} (h : w.ownsRow base e k v n xs) (m : Mod S w w') (hn : ∀ g, v.ownBlock = some g → g ∉ S) : w'.ownsRow base e k v n xs := by
  refine ⟨h.1, ?_⟩
  rcases h.2 with hh | ⟨g, cap, cur, rfl, hb, hgg, rest⟩
  · exact .inl hh
  · exact .inr ⟨g, cap, cur, rfl, hb, (m.block g (Array.getElem?_eq_some_iff.1 hgg).1 (hn g rfl)).trans hgg, rest⟩

/-- Numbers more at the stack's end. -/
theorem Bl.push {w wr w' : World} {st more : List Nat} {its : List (Ent × Value)} {vt vt' vo : Value} (h : Bl w st its vt vo wr) (hl : Lst w' 3 1 vt' (st.length + more.length) (nats st ++ nats more)) (hg : wr.grownBy w' vt.ownBlock) (hw : WhereL wr vt vt') : Bl w (st ++ more) its vt' vo w' := by
  obtain ⟨h1, h2, h3, h4, h5⟩ := h
  have m : Mod vt.ownBlock.toList wr w' := Mod.of_grown hg (fun k hk => by simp [hk])
  have hS : ∀ k ∈ vt.ownBlock.toList, vt.ownBlock = some k := fun k hk => by simpa using hk
  refine ⟨?_, fun k hk => ?_, ownsRow_mod h3 m (fun g hg e => ?_), fun p hp => ?_, h5.trans (m.below (fun k hk => h2 k (hS k hk)) h5.size)⟩
  · rw [show nats (st ++ more) = nats st ++ nats more by simp [nats], List.length_append]
    exact hl
  · rcases hw with e | ⟨q, e, hq⟩
    · rw [e] at hk
      exact h2 k hk
    · rw [e] at hk
      injection hk with hk
      subst hk
      exact Nat.le_trans h5.size hq
  · exact lst_ne h1 (lst_of7 h3) tneB1 g (hS g e) hg
  · obtain ⟨k, sp, ho⟩ := h4 p hp
    refine ⟨k, sp, ho.mod m (fun q hq e => ?_)⟩
    obtain ⟨cs, hb⟩ := ho.blk q hq
    exact lst_blk_ne h1 hb tneB2 (hS q e)

/-- The last number off the stack. -/
theorem Bl.pop {w wr : World} {st : List Nat} {x b c : Nat} {its : List (Ent × Value)} {vo : Value} (h : Bl w (st ++ [x]) its (.slice (some ⟨b, 0, none⟩) (st.length + 1) c) vo wr) : Bl w st its (.slice (some ⟨b, 0, none⟩) st.length c) vo wr := by
  obtain ⟨h1, h2, h3, h4, h5⟩ := h
  refine ⟨?_, fun k hk => h2 k hk, h3, h4, h5⟩
  rw [List.length_append, List.length_singleton] at h1
  have := lst_cut (m := st.length) h1 (by simp)
  rw [Nat.mul_one, nats_take, List.take_left] at this
  exact this

theorem Bl.last {w wr : World} {st : List Nat} {x : Nat} {its : List (Ent × Value)} {vt vo : Value} (h : Bl w (st ++ [x]) its vt vo wr) : ∃ b c, vt = .slice (some ⟨b, 0, none⟩) (st.length + 1) c ∧ st.length + 1 ≤ c ∧ wr.cell? ⟨b, st.length, none⟩ = some (.int .i64 (x : Int)) := by
  obtain ⟨h4, _⟩ := h
  rw [List.length_append, List.length_singleton] at h4
  obtain ⟨b, c, rfl, hc⟩ := lst_pos h4 (by omega)
  refine ⟨b, c, rfl, hc, ?_⟩
  rw [lst_cell h4 _ (by omega), nats_snoc, List.getElem?_append_right (by rw [nats_length]; omega), nats_length, Nat.sub_self]
  rfl

/-- An entry more. -/
theorem Bl.add {w wr w' : World} {st : List Nat} {its : List (Ent × Value)} {vt vo vo' : Value} {E : Ent} {u : Value} {sp : List Int} (h : Bl w st its vt vo wr) (hE : Key E.1) (hu : Own w.heap.size wr u E.2 sp) (hl : w'.ownsRow w.heap.size 66 33 vo' (its.length + 1) (flatP its ++ encP E.1 u)) (hg : wr.grownBy w' vo.ownBlock) : Bl w st (its ++ [(E, u)]) vt vo' w' := by
  obtain ⟨h1, h2, h3, h4, h5⟩ := h
  have m : Mod vo.ownBlock.toList wr w' := Mod.of_grown hg (fun k hk => by simp [hk])
  have hS : ∀ k ∈ vo.ownBlock.toList, vo.ownBlock = some k := fun k hk => by simpa using hk
  have hO : ∀ (u : Value) (zs sp : List Int), Own w.heap.size wr u zs sp → Own w.heap.size w' u zs sp := fun u zs sp ho => ho.mod m (fun q hq e => by
    obtain ⟨cs, hb⟩ := ho.blk q hq
    exact lst_blk_ne (lst_of7 h3) hb tneB3 (hS q e))
  refine ⟨lst_mod h1 m (fun g hg e => ?_), h2, ?_, fun p hp => ?_, below_own h5 h3 (Nat.le_refl _) hg⟩
  · exact lst_ne h1 (lst_of7 h3) tneB1 g hg (hS g e)
  · rw [flatP_snoc, List.length_append, List.length_singleton]
    exact hl
  · rcases List.mem_append.1 hp with hp | hp
    · obtain ⟨k, sp, ho⟩ := h4 p hp
      exact ⟨k, sp, hO _ _ _ ho⟩
    · obtain rfl : p = (E, u) := by simpa using hp
      exact ⟨hE, sp, hO _ _ _ hu⟩

theorem Bl.done {w wr : World} {st : List Nat} {its : List (Ent × Value)} {vt vo : Value} (h : Bl w st its vt vo wr) : ∃ V, PrAt wr vo V (its.map (·.1)) := by
  obtain ⟨h1, h2, h3, h4, h5⟩ := h
  exact ⟨_, prAt_own h3 (fun p hp => (h4 p hp).1) (fun p hp => by obtain ⟨_, sp, ho⟩ := h4 p hp; exact ho.reads)⟩

def BelowPost (es : List Ent) (w : World) (e : Ending) (w' : World) : Prop := ∃ a c V, e = .returned (.slice a es.length c) ∧ PrAt w' (.slice a es.length c) V es ∧ Below w.heap.size w w'

end Go.Proofs.YtgfdgjkbcdmboabGreatDoor
