/- The law's below (the entries of the leaves below a handle), as a contract. -/
import Derived.Test.YtjikgagaalbaeaaGreatDoorTr35
import Derived.Test.YtjikgagaalbaeaaGreatDoorTr45
import Derived.Test.YtjikgagaalbaeaaGreatDoorTr07
import Derived.Test.YtjikgagaalbaeaaGreatDoorTr06
import Derived.Test.YtjikgagaalbaeaaGreatDoorTr10
import Derived.Carry
namespace Go.Proofs.YtjikgagaalbaeaaGreatDoor
set_option maxRecDepth 20000
open Go.RowKit

theorem wpList_appL2 {P : Program} {ops : Array Oper} {rest : List Oper} {o : Oper} {a : Act} {Q : Exit → Act → World → Prop} (w : World) (hgd : o.guard = none) (s x : Operand) (t : TypeId)
    (ho : o.op = .call { callee := .builtin .append, args := #[s, x], argTypes := #[t, t] })
    (e : TypeId) (size bytes : Nat) (ht : P.underlying t = some (.slice e)) (hin : ∃ i z, P.info? e = some i ∧ i.zero = some z ∧ i.size = size ∧ i.bytes = bytes ∧ z.cells.size = size) (hsz : 0 < size)
    (v : Value) (n : Nat) (xs : List Value) (hs : a.eval s = v) (hown : Lst w e size v n xs)
    (g : Nat) (news : List Value) (hx : a.eval x = .slice (some ⟨g, 0, none⟩) 2 2) (hb : Blk w g e news.toArray) (hl : news.length = 2 * size) (h1 : ∀ u ∈ news, u.oneCell' = true)
    (h63 : n + 2 ≤ maxLen) (hbytes : (n + 2) * bytes ≤ 140737488355328)
    (hk : ∀ v' w', Lst w' e size v' (n + 2) (xs ++ news) → w.grownBy w' v.ownBlock → WhereL w v v' → wpList P ops Q rest (a.put o.dst v') w') : wpList P ops Q (o :: rest) a w := by
  refine wpList_plain hgd fun K hK => ?_
  obtain ⟨i, z, hi, hz, hsize, hby, hzs⟩ := hin
  obtain ⟨v', w', hr, h2, h3, h4⟩ := run_appL (P := P) w t o.type e i z size bytes ht hi hz hsize hby hzs hsz v n xs hown ⟨g, 0, none⟩ 2 2 news (by omega) (by
    intro j q hq
    rw [Addr.add_lit, Nat.zero_add, hb.cell]
    simpa using hq) h1 (by omega) h63 hbytes
  unfold Oper.wp execOp
  simp only [ho, resolve, invoke, builtin, Sem.run_bind, Sem.run_pure, Result.andThen_ok, List.map_toArray, List.map_cons, List.map_nil, hs, hx, hr]
  exact hK _ _ (hk v' w' h2 h3 h4)

def p7Places : Nat → Option (Nat × Nat) := fun i => (#[(0, 32), (32, 1)] : Array (Nat × Nat))[i]?

theorem built_p7Eq (ps : List (Nat × Value)) : Tryz.prog.built 77 ps = Instr.fill p7Places (encP z32 (.slice none 0 0)).toArray ps := by kernel_rfl

theorem built_p7 (K : List Int) (a : Option Addr) (n c : Nat) (hk : K.length = 32) : Tryz.prog.built 77 [(0, .agg (B K)), (1, .slice a n c)] = some (encP K (.slice a n c)).toArray := by
  rw [built_p7Eq]
  rw [fill_one p7Places 0 0 32 (.agg (B K)) (K.map (Value.int .u8)) (encP z32 (.slice none 0 0)) _ rfl (cells_b K) (by simp [hk]) (by simp [encP, z32_length])]
  have e1 : (encP z32 (.slice none 0 0)).take 0 ++ (K.map (Value.int .u8) ++ (encP z32 (.slice none 0 0)).drop (0 + 32)) = K.map (Value.int .u8) ++ [.slice none 0 0] := by simp [encP, z32]
  first
    | rw [e1]
    | skip
  rw [fill_one p7Places 1 32 1 (.slice a n c) [.slice a n c] _ _ rfl rfl rfl (by simp [hk, encP, z32_length])]
  simp [encP, Instr.fill, hk, z32]

/-! ### How much is to be done -/
def tw (ps : List (Nat × Tre)) : Nat := (ps.map fun p => 1 + 2 * p.2.num).sum

theorem tw_len : ∀ ps : List (Nat × Tre), ps.length ≤ tw ps
  | [] => Nat.le_refl _
  | p :: ps => by
    have := tw_len ps
    simp only [tw, List.map_cons, List.sum_cons, List.length_cons] at this ⊢
    omega

def dq (cs : List (Nat × Ce)) (h : Nat) : Nat := if (sdC cs h).kind = 2 then (sdC cs h).dp else 256

theorem dq_side {cs : List (Nat × Ce)} {d h : Nat} {b : Int} (hd : d < 256) (s : SideOk cs d b h) : d + 1 ≤ dq cs h := by
  unfold dq
  rcases s with rfl | ⟨h1, _, _, h4⟩
  · have e : ¬ (sdC cs 0).kind = 2 := by
      show ¬ zc.kind = 2
      decide
    rw [if_neg e]
    omega
  · obtain ⟨i, rfl⟩ : ∃ i, h = i + 1 := ⟨h - 1, by omega⟩
    rw [Nat.add_sub_cancel] at h4
    rw [show sdC cs (i + 1) = ce cs i from rfl]
    split
    · rcases h4 with h4 | ⟨_, h4⟩
      · omega
      · omega
    · omega

theorem num_le {cs : List (Nat × Ce)} {pend : List Nat} (w : Wf cs pend) : ∀ (T : Tre) (h : Nat), IsT cs h T → T.num ≤ T.ents.length * (257 - dq cs h)
  | .emp, h, _ => Nat.zero_le _
  | .lf k b, h, ⟨h1, h2, h3, _⟩ => by
    obtain ⟨i, rfl⟩ : ∃ i, h = i + 1 := ⟨h - 1, by omega⟩
    rw [Nat.add_sub_cancel] at h3
    have : dq cs (i + 1) = 256 := by
      unfold dq
      rw [show sdC cs (i + 1) = ce cs i from rfl, if_neg (by omega)]
    rw [this]
    simp [Tre.num, Tre.ents]
  | .nd d hl hr L R, h, hT => by
    have hok := tree_ok w _ h hT
    have hp := hok.pos
    obtain ⟨h1, h2, h3, h4, h5, h6, h7, h8⟩ := hT
    obtain ⟨i, rfl⟩ : ∃ i, h = i + 1 := ⟨h - 1, by omega⟩
    rw [Nat.add_sub_cancel] at h2 h3 h4 h5 h6
    have a1 := num_le w L hl h7
    have a2 := num_le w R hr h8
    rcases w.tr i h2 with hn | hn
    · have := hn.kind; omega
    have hd := hn.dp
    have b1 := dq_side hd hn.sl
    have b2 := dq_side hd hn.sr
    rw [h4] at hd b1 b2
    rw [h5] at b1
    rw [h6] at b2
    have e : dq cs (i + 1) = d := by
      unfold dq
      rw [show sdC cs (i + 1) = ce cs i from rfl, if_pos h3, h4]
    have hpos : 0 < L.ents.length + R.ents.length := by
      have := hp (by omega)
      rw [Tre.ents] at this
      rw [← List.length_append]
      exact List.length_pos_iff.2 this
    rw [e, Tre.num, Tre.ents, List.length_append]
    have c1 : L.ents.length * (257 - dq cs hl) ≤ L.ents.length * (256 - d) := Nat.mul_le_mul_left _ (by omega)
    have c2 : R.ents.length * (257 - dq cs hr) ≤ R.ents.length * (256 - d) := Nat.mul_le_mul_left _ (by omega)
    have c3 : (L.ents.length + R.ents.length) * (257 - d) = L.ents.length * (256 - d) + R.ents.length * (256 - d) + (L.ents.length + R.ents.length) := by
      rw [show 257 - d = (256 - d) + 1 by omega, Nat.mul_add, Nat.mul_one, Nat.add_mul]
    omega

theorem lst_same {w : World} {e : TypeId} {k : Nat} {v : Value} {n n' : Nat} {xs xs' : List Value} (h : Lst w e k v n xs) (h' : Lst w e k v n' xs') : xs = xs' := by
  rcases h.2 with ⟨rfl, rfl⟩ | ⟨g, cap, cur, rfl, _, hg, _, _, _, ht⟩
  · rcases h'.2 with ⟨_, rfl⟩ | ⟨_, _, _, e, _⟩
    · have h1 := h.1
      have h2 := h'.1
      rw [Nat.zero_mul] at h1 h2
      rw [List.length_eq_zero_iff.1 h1, List.length_eq_zero_iff.1 h2]
    · cases e
  · rcases h'.2 with ⟨e, _⟩ | ⟨g', cap', cur', e, _, hg', _, _, _, ht'⟩
    · cases e
    · injection e with e1 e2 e3
      injection e1 with e1
      injection e1 with e1
      subst e1 e2
      rw [hg] at hg'
      injection hg' with hg'
      injection hg' with hg'
      subst hg'
      rw [← ht, ← ht']

theorem nats_inj {a b : List Nat} (h : nats a = nats b) : a = b := by
  unfold nats at h
  refine (List.map_inj_right ?_).1 h
  intro x y e
  injection e with _ e
  omega

theorem pairs_same {cs : List (Nat × Ce)} : ∀ (ps qs : List (Nat × Tre)), ps.map (·.1) = qs.map (·.1) → (∀ p ∈ ps, IsT cs p.1 p.2) → (∀ p ∈ qs, IsT cs p.1 p.2) → ps = qs
  | [], [], _, _, _ => rfl
  | [], _ :: _, h, _, _ => by simp at h
  | _ :: _, [], h, _, _ => by simp at h
  | (a, S) :: ps, (b, U) :: qs, h, h1, h2 => by
    simp only [List.map_cons, List.cons.injEq] at h
    obtain ⟨rfl, h⟩ := h
    have e := (h1 (a, S) (by simp)).one (h2 (a, U) (by simp))
    simp only at e
    subst e
    rw [pairs_same ps qs h (fun p hp => h1 p (List.mem_cons_of_mem _ hp)) (fun p hp => h2 p (List.mem_cons_of_mem _ hp))]

theorem tw_fun (cs : List (Nat × Ce)) : ∃ mea : Value → World → Nat, ∀ (v : Value) (w : World) (n : Nat) (ps : List (Nat × Tre)), Lst w 3 1 v n (nats (ps.map (·.1)).reverse) → (∀ p ∈ ps, IsT cs p.1 p.2) → mea v w = tw ps := by
  have h : ∀ (v : Value) (w : World), ∃ m : Nat, ∀ (n : Nat) (ps : List (Nat × Tre)), Lst w 3 1 v n (nats (ps.map (·.1)).reverse) → (∀ p ∈ ps, IsT cs p.1 p.2) → m = tw ps := fun v w => by
    by_cases e : ∃ (n : Nat) (ps : List (Nat × Tre)), Lst w 3 1 v n (nats (ps.map (·.1)).reverse) ∧ (∀ p ∈ ps, IsT cs p.1 p.2)
    · obtain ⟨n, ps, h1, h2⟩ := e
      refine ⟨tw ps, fun n' qs k1 k2 => ?_⟩
      have := nats_inj (lst_same h1 k1)
      rw [pairs_same ps qs (by simpa using this) h2 k2]
    · exact ⟨0, fun n ps k1 k2 => absurd ⟨n, ps, k1, k2⟩ e⟩
  exact ⟨fun v w => Classical.choose (h v w), fun v w => Classical.choose_spec (h v w)⟩

/-- A stack of numbers and entries gathered, beside all that was there. -/
def Bl (w : World) (st : List Nat) (its : List (Ent × Value)) (vt vo : Value) (wr : World) : Prop :=
  Lst wr 3 1 vt st.length (nats st) ∧ (∀ k, vt.ownBlock = some k → w.heap.size ≤ k) ∧ wr.ownsRow w.heap.size 77 33 vo its.length (flatP its) ∧ (∀ p ∈ its, Key p.1.1 ∧ ∃ sp, Own w.heap.size wr p.2 p.1.2 sp) ∧ Below w.heap.size w wr

theorem Bl.grow {w wr w' : World} {st : List Nat} {its : List (Ent × Value)} {vt vo : Value} (h : Bl w st its vt vo wr) (hb : Below wr.heap.size wr w') : Bl w st its vt vo w' := by
  obtain ⟨h1, h2, h3, h4, h5⟩ := h
  refine ⟨lst_grow h1 hb, h2, ownsP_below h3 hb, fun p hp => ?_, grow_trans h5 hb⟩
  obtain ⟨k, sp, ho⟩ := h4 p hp
  exact ⟨k, sp, ho.grow hb⟩

theorem tneB1 : (3 : Nat) ≠ 77 := by decide

theorem tneB2 : (3 : Nat) ≠ 5 := by decide

theorem tneB3 : (77 : Nat) ≠ 5 := by decide

theorem lst_of7 {w : World} {base : Nat} {e : TypeId} {k : Nat} {v : Value} {n : Nat} {xs : List Value} (h : w.ownsRow base e k v n xs) : Lst w e k v n xs := ⟨h.1, h.2.imp id (fun ⟨g, cap, cur, a1, _, a3⟩ => ⟨g, cap, cur, a1, Nat.zero_le _, a3⟩)⟩

theorem ownsRow_mod {w w' : World} {base : Nat} {e : TypeId} {k : Nat} {v : Value} {n : Nat} {xs : List Value} {S : List Nat} (h : w.ownsRow base e k v n xs) (m : Mod S w w') (hn : ∀ g, v.ownBlock = some g → g ∉ S) : w'.ownsRow base e k v n xs := by
  refine ⟨h.1, ?_⟩
  rcases h.2 with hh | ⟨g, cap, cur, rfl, hb, hgg, rest⟩
  · exact .inl hh
  · exact .inr ⟨g, cap, cur, rfl, hb, (m.block g (Array.getElem?_eq_some_iff.1 hgg).1 (hn g rfl)).trans hgg, rest⟩

/-- Numbers more at the stack's end. -/
theorem Bl.push {w wr w' : World} {st more : List Nat} {its : List (Ent × Value)} {vt vt' vo : Value} (h : Bl w st its vt vo wr) (hl : Lst w' 3 1 vt' (st.length + more.length) (nats st ++ nats more)) (hg : wr.grownBy w' vt.ownBlock) (hw : WhereL wr vt vt') : Bl w (st ++ more) its vt' vo w' := by
  obtain ⟨h1, h2, h3, h4, h5⟩ := h
  have m : Mod vt.ownBlock.toList wr w' := Mod.of_grown hg (fun k hk => by simp [hk])
  have hS : ∀ k ∈ vt.ownBlock.toList, vt.ownBlock = some k := fun k hk => by simpa using hk
  refine ⟨?_, fun k hk => ?_, ownsRow_mod h3 m (fun g hg e => ?_), fun p hp => ?_, h5.trans (m.below (fun k hk => h2 k (hS k hk)) h5.size)⟩
  · rw [show nats (st ++ more) = nats st ++ nats more by simp [nats], List.length_append]
    exact hl
  · rcases hw with e | ⟨q, e, hq⟩
    · rw [e] at hk
      exact h2 k hk
    · rw [e] at hk
      injection hk with hk
      subst hk
      exact Nat.le_trans h5.size hq
  · exact lst_ne h1 (lst_of7 h3) tneB1 g (hS g e) hg
  · obtain ⟨k, sp, ho⟩ := h4 p hp
    refine ⟨k, sp, ho.mod m (fun q hq e => ?_)⟩
    obtain ⟨cs, hb⟩ := ho.blk q hq
    exact lst_blk_ne h1 hb tneB2 (hS q e)

/-- The last number off the stack. -/
theorem Bl.pop {w wr : World} {st : List Nat} {x b c : Nat} {its : List (Ent × Value)} {vo : Value} (h : Bl w (st ++ [x]) its (.slice (some ⟨b, 0, none⟩) (st.length + 1) c) vo wr) : Bl w st its (.slice (some ⟨b, 0, none⟩) st.length c) vo wr := by
  obtain ⟨h1, h2, h3, h4, h5⟩ := h
  refine ⟨?_, fun k hk => h2 k hk, h3, h4, h5⟩
  rw [List.length_append, List.length_singleton] at h1
  have := lst_cut (m := st.length) h1 (by simp)
  rw [Nat.mul_one, nats_take, List.take_left] at this
  exact this

theorem Bl.last {w wr : World} {st : List Nat} {x : Nat} {its : List (Ent × Value)} {vt vo : Value} (h : Bl w (st ++ [x]) its vt vo wr) : ∃ b c, vt = .slice (some ⟨b, 0, none⟩) (st.length + 1) c ∧ st.length + 1 ≤ c ∧ wr.cell? ⟨b, st.length, none⟩ = some (.int .i64 (x : Int)) := by
  obtain ⟨h4, _⟩ := h
  rw [List.length_append, List.length_singleton] at h4
  obtain ⟨b, c, rfl, hc⟩ := lst_pos h4 (by omega)
  refine ⟨b, c, rfl, hc, ?_⟩
  rw [lst_cell h4 _ (by omega), nats_snoc, List.getElem?_append_right (by rw [nats_length]; omega), nats_length, Nat.sub_self]
  rfl

/-- An entry more. -/
theorem Bl.add {w wr w' : World} {st : List Nat} {its : List (Ent × Value)} {vt vo vo' : Value} {E : Ent} {u : Value} {sp : List Int} (h : Bl w st its vt vo wr) (hE : Key E.1) (hu : Own w.heap.size wr u E.2 sp) (hl : w'.ownsRow w.heap.size 77 33 vo' (its.length + 1) (flatP its ++ encP E.1 u)) (hg : wr.grownBy w' vo.ownBlock) : Bl w st (its ++ [(E, u)]) vt vo' w' := by
  obtain ⟨h1, h2, h3, h4, h5⟩ := h
  have m : Mod vo.ownBlock.toList wr w' := Mod.of_grown hg (fun k hk => by simp [hk])
  have hS : ∀ k ∈ vo.ownBlock.toList, vo.ownBlock = some k := fun k hk => by simpa using hk
  have hO : ∀ (u : Value) (zs sp : List Int), Own w.heap.size wr u zs sp → Own w.heap.size w' u zs sp := fun u zs sp ho => ho.mod m (fun q hq e => by
    obtain ⟨cs, hb⟩ := ho.blk q hq
    exact lst_blk_ne (lst_of7 h3) hb tneB3 (hS q e))
  refine ⟨lst_mod h1 m (fun g hg e => ?_), h2, ?_, fun p hp => ?_, below_own h5 h3 (Nat.le_refl _) hg⟩
  · exact lst_ne h1 (lst_of7 h3) tneB1 g hg (hS g e)
  · rw [flatP_snoc, List.length_append, List.length_singleton]
    exact hl
  · rcases List.mem_append.1 hp with hp | hp
    · obtain ⟨k, sp, ho⟩ := h4 p hp
      exact ⟨k, sp, hO _ _ _ ho⟩
    · obtain rfl : p = (E, u) := by simpa using hp
      exact ⟨hE, sp, hO _ _ _ hu⟩

theorem Bl.done {w wr : World} {st : List Nat} {its : List (Ent × Value)} {vt vo : Value} (h : Bl w st its vt vo wr) : ∃ V, PrAt wr vo V (its.map (·.1)) := by
  obtain ⟨h1, h2, h3, h4, h5⟩ := h
  exact ⟨_, prAt_own h3 (fun p hp => (h4 p hp).1) (fun p hp => by obtain ⟨_, sp, ho⟩ := h4 p hp; exact ho.reads)⟩

def BelowPost (es : List Ent) (w : World) (e : Ending) (w' : World) : Prop := ∃ a c V, e = .returned (.slice a es.length c) ∧ PrAt w' (.slice a es.length c) V es ∧ Below w.heap.size w w'

set_option maxRecDepth 100000 in
set_option maxHeartbeats 16000000 in
theorem below_any {w : World} {p0 : Value} {cs : List (Nat × Ce)} (hV : Vw w p0 true (cot cs) (cat cs)) (hW : Wf cs []) (hl : cs.length ≤ 60) (x : Nat) (T : Tre) (hT : IsT cs x T) : Calls Tryz.prog 12 #[p0, .int .i64 (x : Int)] w (BelowPost T.ents w) := by
  have HV := hidden hV
  have HW := hidden hW
  have HT := hidden hT
  have HTL : Hid (T.ents.length ≤ 60) := Nat.le_trans (tree_ok hW T x hT).few hl
  have HTW : Hid (tw [(x, T)] ≤ 40000) := by
    have h1 := num_le hW T x hT
    have h2 := HTL.out
    have h3 : T.ents.length * (257 - dq cs x) ≤ 60 * 257 := Nat.mul_le_mul h2 (by omega)
    show _ ≤ _
    simp [tw]
    omega
  have HPost : Hid (∀ w' its oa oc vt, its.map (·.1) = T.ents → Bl w [] its vt (.slice oa its.length oc) w' → BelowPost T.ents w (.returned (.slice oa its.length oc)) w') := fun w' its oa oc vt h1 h2 => by
    obtain ⟨V, hV⟩ := h2.done
    have hl : its.length = T.ents.length := by rw [← h1, List.length_map]
    rw [hl] at hV ⊢
    rw [h1] at hV
    exact ⟨_, _, V, rfl, hV, h2.2.2.2.2⟩
  obtain ⟨mea, hmea⟩ := tw_fun cs
  have HME := hidden hmea
  obtain ⟨y0, hy0⟩ : ∃ y : Int, y = (x : Int) := ⟨_, rfl⟩
  rw [← hy0]
  have HY0 := hidden hy0
  clear hV hW hl hT hmea hy0
  go_enter Tryz.func12, Tryz.ntmps12
  go_wp2_with fail
  have HB0 : Hid (Bl w [x] [] (.slice (some ⟨w.heap.size, 0, none⟩) 1 1) (.slice none 0 0) (w.alloc (.cells #[.int .i64 y0] 3))) := by
    refine ⟨?_, fun k hk => ?_, World.ownsRow_nil _ _ _ _, (fun p hp => absurd hp (by simp)), grow_alloc _ _⟩
    · refine lst_one _ _ x ?_
      rw [← HY0.out]
      exact Blk.new _ _ _
    · simp only [Value.ownBlock, Option.some.injEq] at hk
      omega
  generalize w.alloc (.cells #[.int .i64 y0] 3) = w1 at *
  generalize w.heap.size = b0 at HB0 ⊢
  go_loopw [5, 6] (fun ov tv wr => ∃ (its : List (Ent × Value)) (ps : List (Nat × Tre)) (oa : Option Addr) (n oc : Nat) (ta : Option Addr) (m tc : Nat), ov = .slice oa n oc ∧ tv = .slice ta m tc ∧ Hid (n = its.length ∧ m = ps.length ∧ n ≤ 60) ∧ Hid (Bl w (ps.map (·.1)).reverse its tv ov wr) ∧ Hid ((∀ p ∈ ps, IsT cs p.1 p.2) ∧ its.map (·.1) ++ ps.flatMap (·.2.ents) = T.ents ∧ tw ps ≤ 40000)) (fun _ tv wr => mea tv wr)
  case atStart => exact ⟨[], [(x, T)], none, 0, 0, _, 1, 1, rfl, rfl, ⟨rfl, rfl, by omega⟩, HB0, ⟨fun p hp => by obtain rfl : p = (x, T) := (by simpa using hp); exact HT.out, by simp, HTW.out⟩⟩
  case round =>
    clear HB0 HT HY0
    obtain ⟨its, ps, oa, n, oc, ta, m, tc, rfl, rfl, hn, hB, hI⟩ := hrel
    cases ps with
    | nil =>
      have hl : m = 0 := hn.out.2.1
      subst hl
      have HP : Hid (BelowPost T.ents w (.returned (.slice oa n oc)) wr) := by
        have h1 := hI.out.2.1
        rw [List.flatMap_nil, List.append_nil] at h1
        have h2 := hB.out
        have h3 := hn.out.1
        subst h3
        exact HPost.out _ its _ _ _ h1 h2
      clear hB hI hn HPost
      go_wp2
      go_ret
      exact HP.out
    | cons p ps =>
      obtain ⟨h, t⟩ := p
      have hB1 := hB.out
      rw [List.map_cons, List.reverse_cons] at hB1
      obtain ⟨b, c', hv, hcap, hcell⟩ := hB1.last
      rw [List.length_reverse, List.length_map] at hv hcap hcell
      injection hv with e1 e2 e3
      subst e1
      subst e3
      have HBP : Hid (Bl w (ps.map (·.1)).reverse its (.slice (some ⟨b, 0, none⟩) ps.length tc) (.slice oa n oc) wr) := by
        have h0 := hB1
        have e : m = (ps.map (·.1)).reverse.length + 1 := by rw [List.length_reverse, List.length_map]; exact e2
        rw [e] at h0
        have h1 := h0.pop
        rw [List.length_reverse, List.length_map] at h1
        exact h1
      have HM0 : Hid (mea (.slice (some ⟨b, 0, none⟩) m tc) wr = (1 + 2 * t.num) + tw ps) := by
        have := HME.out _ _ _ ((h, t) :: ps) hB.out.1 hI.out.1
        show _ = _
        rw [this]
        simp [tw]
      have HIt := hidden (hI.out.1 (h, t) (by simp))
      have HIp : Hid (∀ p ∈ ps, IsT cs p.1 p.2) := fun p hp => hI.out.1 p (List.mem_cons_of_mem _ hp)
      have HEN : Hid (its.map (·.1) ++ (t.ents ++ ps.flatMap (·.2.ents)) = T.ents) := by
        have := hI.out.2.1
        rwa [List.flatMap_cons] at this
      have hml : m = ps.length + 1 := e2
      have HPL : Hid (ps.length ≤ 40000) := by
        have h0 := hI.out.2.2
        have h1 := tw_len ((h, t) :: ps)
        rw [List.length_cons] at h1
        show _ ≤ _
        omega
      have hn60 := hn.out.2.2
      have HTT : Hid ((1 + 2 * t.num) + tw ps ≤ 40000) := by
        have := hI.out.2.2
        simp only [tw, List.map_cons, List.sum_cons] at this
        exact this
      have HN := hidden hn.out.1
      have H60 := hidden hn.out.2.2
      have HKD : Hid (∀ w', Below w.heap.size w w' → Calls Tryz.prog 17 #[p0, .int .i64 (h : Int)] w' fun e w'' => e = .returned (.int .u8 (sdC cs h).kind) ∧ Below w'.heap.size w' w'') := fun w' hb => by
        have := kind_any (HV.out.grow hb) (h : Int)
        rwa [cat_nat] at this
      subst hml
      obtain ⟨q, hq⟩ : ∃ q, q = ps.length := ⟨_, rfl⟩
      rw [← hq] at hcap hcell HBP HM0 HPL
      rw [← hq]
      have HQ := hidden hq
      have hqb := HPL.out
      obtain ⟨y, hy⟩ : ∃ y : Int, y = (h : Int) := ⟨_, rfl⟩
      rw [← hy] at hcell HKD
      have HY := hidden hy
      have i0 : (0 : Int) ≤ (q : Int) := by omega
      have i1 : (q : Int) < (q : Int) + 1 := by omega
      have i1' : (q : Int) < ((q + 1 : Nat) : Int) := by omega
      have i2 : (q : Int) ≤ (tc : Int) := by omega
      have i3 : (0 : Int) < ((q + 1 : Nat) : Int) := by omega
      have i4 : (n : Int) < 100 := by omega
      have hwm : wrap64 (q : Int) = (q : Int) := Go.IntWalk.wrap64_in _ (by omega)
      have HBW : Hid (Below w.heap.size w wr) := hB.out.2.2.2.2
      clear hB hI hn hB1 e2 hq hy hqb hn60
      cases t with
      | emp =>
        have hh : h = 0 := HIt.out
        subst hh
        have hk0 : (sdC cs 0).kind = 0 := rfl
        rw [hk0] at HKD
        clear HIt HPost
        go_wp2_with (first
          | (go_at_call 17; refine (HKD.out _ HBW.out).mono ?_; rintro e w2 ⟨rfl, b2⟩; have HB2 := hidden (HBP.out.grow b2); clear b2))
        have hm : mea (.slice (some ⟨b, 0, none⟩) q tc) w2 = tw ps := HME.out _ _ _ ps HB2.out.1 HIp.out
        have h0 := HM0.out
        have hen := HEN.out
        refine ⟨⟨its, ps, oa, n, oc, some ⟨b, 0, none⟩, q, tc, rfl, rfl, ⟨HN.out, HQ.out, H60.out⟩, HB2, HIp.out, ?_, ?_⟩, ?_⟩
        · simpa [Tre.ents] using hen
        · have := HTT.out
          omega
        · rw [hm, h0]
          omega
      | lf K bs =>
        obtain ⟨h1, h2, h3, h4, h5⟩ := HIt.out
        obtain ⟨i, rfl⟩ : ∃ i, h = i + 1 := ⟨h - 1, by omega⟩
        rw [Nat.add_sub_cancel] at h3 h4 h5
        have hsd : sdC cs (i + 1) = ce cs i := rfl
        rw [hsd, h3] at HKD
        have HKY : Hid (Key K) := by
          have := (HW.out.ok i).hk
          rwa [h4] at this
        have HKE : Hid (∀ w', Below w.heap.size w w' → Calls Tryz.prog 43 #[p0, .int .i64 y] w' fun e w'' => e = .returned (.agg (B K)) ∧ Below w'.heap.size w' w'') := fun w' hb => by
          have := key_any (HV.out.grow hb) ((i + 1 : Nat) : Int)
          rw [cat_nat, hsd, h4, ← HY.out] at this
          exact this
        have HVA : Hid (∀ w', Below w.heap.size w w' → Calls Tryz.prog 44 #[p0, .int .i64 y] w' fun e w'' => ∃ v' sp, e = .returned v' ∧ Own w'.heap.size w'' v' bs sp ∧ Below w'.heap.size w' w'') := fun w' hb => by
          have := valueS_any (HV.out.grow hb) ((i + 1 : Nat) : Int)
          rw [cat_nat, hsd, h5, ← HY.out] at this
          exact this
        have HTE : Hid (its.length + 1 ≤ 60) := by
          have := congrArg List.length HEN.out
          simp only [Tre.ents, List.length_append, List.length_map, List.length_cons, List.length_nil] at this
          have h6 := HTL.out
          show _ ≤ _
          omega
        clear HIt HPost h1 h2 h3 h4 h5 hsd
        go_wp2_with (first
          | (go_at_call 17; refine (HKD.out _ HBW.out).mono ?_; rintro e w2 ⟨rfl, b2⟩; have HB2 := hidden (HBP.out.grow b2); clear b2)
          | (go_at_call 43; refine (HKE.out _ HB2.out.2.2.2.2).mono ?_; rintro e w3 ⟨rfl, b3⟩; have HB3 := hidden (HB2.out.grow b3); clear b3)
          | (go_at_call 44; refine (HVA.out _ HB3.out.2.2.2.2).mono ?_; rintro e w4 ⟨v4, sp, rfl, o4, b4⟩; have HB4 := hidden (HB3.out.grow b4); have HO4 := hidden (o4.mono HB3.out.2.2.2.2.size); obtain ⟨ua, uc, rfl⟩ := o4.slice; have HBU := hidden (built_p7 K ua bs.length uc HKY.out.1); clear b4 o4)
          | ((with_reducible refine at_bd ?_); refine wpList_bld _ rfl _ _ rfl _ (by rw [List.map_toArray]; exact HBU.out) ?_)
          | (refine wpList_bsp _ rfl _ rfl K (.slice ua bs.length uc) rfl HKY.out.1 ?_; have HB5 := hidden (HB4.out.grow (grow_alloc w4 (.cells (encP K (.slice ua bs.length uc)).toArray 77))); have HO5 := hidden (HO4.out.grow (grow_alloc w4 (.cells (encP K (.slice ua bs.length uc)).toArray 77))))
          | (at_builtin; refine wpList_appP _ rfl _ _ rfl w.heap.size _ n (flatP its) (by have := HB5.out.2.2.1; rw [← HN.out] at this; exact this) rfl w4.heap.size K (.slice ua bs.length uc) rfl (Blk.new _ _ _) HKY.out.1 rfl (by have := HTE.out; have := HN.out; omega) HB5.out.2.2.2.2.size ?_; intro v' w6 ho6 hg6))
        obtain ⟨sa', sc', rfl⟩ : ∃ sa' sc', v' = .slice sa' (n + 1) sc' := lst_slice (lst_of7 ho6)
        have h0 := HM0.out
        have hen := HEN.out
        have ho7 := ho6
        rw [HN.out] at ho7
        have hB6 := HB5.out.add (E := (K, bs)) HKY.out HO5.out ho7 hg6
        rw [← HN.out] at hB6
        have hm : mea (.slice (some ⟨b, 0, none⟩) q tc) w6 = tw ps := HME.out _ _ _ ps hB6.1 HIp.out
        refine ⟨⟨its ++ [((K, bs), .slice ua bs.length uc)], ps, sa', n + 1, sc', some ⟨b, 0, none⟩, q, tc, rfl, rfl, ⟨?_, HQ.out, ?_⟩, hidden hB6, HIp.out, ?_, ?_⟩, ?_⟩
        · rw [List.length_append, List.length_singleton, HN.out]
        · have := HTE.out
          have := HN.out
          omega
        · rw [← hen]
          simp [Tre.ents]
        · have := HTT.out
          omega
        · rw [hm, h0]
          omega
      | nd d hl hr l r =>
        obtain ⟨h1, h2, h3, h4, h5, h6, h7, h8⟩ := HIt.out
        obtain ⟨i, rfl⟩ : ∃ i, h = i + 1 := ⟨h - 1, by omega⟩
        rw [Nat.add_sub_cancel] at h3 h5 h6
        have hsd : sdC cs (i + 1) = ce cs i := rfl
        rw [hsd, h3] at HKD
        have HSD : Hid (∀ w', Below w.heap.size w w' → Calls Tryz.prog 45 #[p0, .int .i64 y] w' fun e w'' => e = .returned (.tuple #[.int .i64 (hl : Int), .int .i64 (hr : Int)]) ∧ Below w'.heap.size w' w'') := fun w' hb => by
          have := sides_any (HV.out.grow hb) ((i + 1 : Nat) : Int)
          rw [cat_nat, hsd, h5, h6, ← HY.out] at this
          exact this
        have HI2 : Hid (∀ p ∈ (hl, l) :: (hr, r) :: ps, IsT cs p.1 p.2) := fun p hp => by
          rcases List.mem_cons.1 hp with rfl | hp
          · exact h7
          · rcases List.mem_cons.1 hp with rfl | hp
            · exact h8
            · exact HIp.out p hp
        clear HIt HPost h1 h2 h3 h4 h5 h6 h7 h8 hsd
        go_wp2_with (first
          | (go_at_call 17; refine (HKD.out _ HBW.out).mono ?_; rintro e w2 ⟨rfl, b2⟩; have HB2 := hidden (HBP.out.grow b2); clear b2)
          | (go_at_call 45; refine (HSD.out _ HB2.out.2.2.2.2).mono ?_; rintro e w3 ⟨rfl, b3⟩; have HB3 := hidden ((HB2.out.grow b3).grow (grow_alloc w3 (.cells #[.int .i64 (hr : Int), .int .i64 (hl : Int)] 3))); clear b3)
          | (at_builtin; refine wpList_appL2 _ rfl _ _ _ rfl 3 1 8 Tryz.underlying40 info_nat (by omega) _ q (nats (ps.map (·.1)).reverse) rfl (by have := HB3.out.1; rw [List.length_reverse, List.length_map, ← HQ.out] at this; exact this) w3.heap.size [Value.int .i64 (hr : Int), Value.int .i64 (hl : Int)] rfl (Blk.new _ _ _) rfl (by intro u hu; simp at hu; rcases hu with rfl | rfl <;> rfl) (by have := HPL.out; simp only [maxLen]; omega) (by have := HPL.out; omega) ?_; intro v' w4 h4 g4 wh; obtain ⟨a4, c4, rfl⟩ := lst_slice h4))
        have h0 := HM0.out
        have hen := HEN.out
        have hB5 : Bl w (((hl, l) :: (hr, r) :: ps).map (·.1)).reverse its (.slice a4 (q + 2) c4) (.slice oa n oc) w4 := by
          have := HB3.out.push (more := [hr, hl]) (by rw [List.length_reverse, List.length_map, ← HQ.out]; exact h4) g4 wh
          rw [show (((hl, l) :: (hr, r) :: ps).map (·.1)).reverse = (ps.map (·.1)).reverse ++ [hr, hl] by simp]
          exact this
        have hm : mea (.slice a4 (q + 2) c4) w4 = tw ((hl, l) :: (hr, r) :: ps) := HME.out _ _ _ _ hB5.1 HI2.out
        have htw : tw ((hl, l) :: (hr, r) :: ps) = (1 + 2 * l.num) + ((1 + 2 * r.num) + tw ps) := by simp [tw]
        have hnn : (Tre.nd d hl hr l r).num = 1 + (l.num + r.num) := rfl
        rw [hnn] at h0
        refine ⟨⟨its, (hl, l) :: (hr, r) :: ps, oa, n, oc, a4, q + 2, c4, rfl, rfl, ⟨HN.out, ?_, H60.out⟩, hidden hB5, HI2.out, ?_, ?_⟩, ?_⟩
        · simp [HQ.out]
        · rw [← hen]
          simp [Tre.ents]
        · have := HTT.out
          rw [hnn] at this
          rw [htw]
          omega
        · rw [hm, h0, htw]
          omega

end Go.Proofs.YtjikgagaalbaeaaGreatDoor

/- A set of keys, a map of the call's own: looked up, and one key more. -/
namespace Go.Proofs.YtjikgagaalbaeaaGreatDoor
set_option maxRecDepth 20000
open Go.RowKit

theorem part_byte (xs : List Int) (i : Nat) (hi : i < xs.length) (w : World) : (part 5 (B xs) i).run Tryz.prog w = .ok (.int .u8 (xs.getD i 0)) w := by
  have hagg : (isAgg 5).run Tryz.prog w = .ok false w := Tryz.isAgg5 w
  have h1 := B_get xs i hi
  unfold part
  rw [Sem.run_bind, hagg]
  simp only [Result.andThen_ok, Bool.false_eq_true, if_false, h1, Sem.run_pure]

theorem check_path (xs : List Int) (em : Bool) (hx : xs.length = 32) (w : World) : (Instr.checkKey em 10000 31 (.agg (B xs))).run Tryz.prog w = .ok () w := by
  obtain ⟨i, hi⟩ : ∃ i, Tryz.prog.info? 5 = some i := ⟨_, rfl⟩
  have hsz : i.size = 1 := by
    have := cellsOf_byte
    simpa [Program.cellsOf, hi] using this
  have hs : ∀ w, (Go.sizeOf 5).run Tryz.prog w = .ok 1 w := fun w => by simp [Go.sizeOf, typeInfo, hi, hsz]
  have hb : ∀ z w, (Instr.checkKey em 9999 5 (.int .u8 z)).run Tryz.prog w = .ok () w := fun z w => by
    rw [show (9999 : Nat) = 9998 + 1 from rfl, Instr.checkKey]
    simp [Sem.run_bind, run_underlying u_byte]
  rw [show (10000 : Nat) = 9999 + 1 from rfl, Instr.checkKey]
  simp only [Sem.run_bind, run_underlying u_path, Result.andThen_ok]
  simp only [Std.Legacy.Range.forIn_eq_forIn_range', Std.Legacy.Range.size, Nat.sub_zero, Nat.add_one_sub_one, Nat.div_one]
  have each : ∀ j ∈ List.range' 0 32, j < 32 := fun j hj => by simp at hj; omega
  generalize List.range' 0 32 = js at each
  induction js with
  | nil => simp
  | cons j js ih =>
    have hj := each j (by simp)
    simp only [List.forIn_cons, Sem.run_bind, hs, Result.andThen_ok, Nat.mul_one, part_byte xs j (by omega), hb, Sem.run_pure]
    exact ih (fun y hy => each y (by simp [hy]))

/-- Block b is a map whose keys are these, each with the value of no field. -/
def KeysAt (w : World) (b : Nat) (ks : List (List Int)) : Prop :=
  ∃ es clock, w.heap[b]? = some (.map es clock) ∧ es.toList.map (fun e => (e.key, e.val)) = ks.map (fun k => (Value.agg (B k), Value.agg #[]))

theorem KeysAt.lt {w : World} {b : Nat} {ks : List (List Int)} (h : KeysAt w b ks) : b < w.heap.size := by
  obtain ⟨es, c, h1, _⟩ := h
  exact (Array.getElem?_eq_some_iff.1 h1).1
theorem KeysAt.grow {w w' : World} {b : Nat} {ks : List (List Int)} (h : KeysAt w b ks) (hb : Below w.heap.size w w') : KeysAt w' b ks := by
  have hl := h.lt
  obtain ⟨es, c, h1, h2⟩ := h
  exact ⟨es, c, (hb.block b hl).trans h1, h2⟩
theorem KeysAt.new (w : World) : KeysAt (w.alloc (.map #[] 0)) w.heap.size [] := ⟨#[], 0, heap_alloc_new w _, rfl⟩

theorem equal_key (xs ys : List Int) (hx : xs.length = 32) (hy : ys.length = 32) (w : World) : (Op.equal 31 (.agg (B xs)) (.agg (B ys))).run Tryz.prog w = .ok (decide (xs = ys)) w := path_eq xs ys hx hy w

theorem find_asking (xs : List Int) (hx : xs.length = 32) (w : World) : ∀ (es : List MapEntry) (ks : List (List Int)) (i : Nat), (∀ k ∈ ks, k.length = 32) → es.map (fun e => (e.key, e.val)) = ks.map (fun k => (Value.agg (B k), Value.agg #[])) →
    ∃ r, (Instr.findAsking 31 (.agg (B xs)) es i).run Tryz.prog w = .ok r w ∧ (xs ∈ ks → ∃ j, r = some (j, .agg #[])) ∧ (xs ∉ ks → r = none)
  | [], ks, i, _, h => by
    have : ks = [] := by simpa using h.symm
    subst this
    exact ⟨none, by simp [Instr.findAsking], fun h => by simp at h, fun _ => rfl⟩
  | e :: es, [], i, _, h => by simp at h
  | e :: es, k :: ks, i, hl, h => by
    simp only [List.map_cons, List.cons.injEq, Prod.mk.injEq] at h
    obtain ⟨⟨h1, h2⟩, h3⟩ := h
    have he := equal_key xs k hx (hl k (by simp)) w
    by_cases hk : xs = k
    · refine ⟨some (i, e.val), ?_, fun _ => ⟨i, by rw [h2]⟩, fun hn => absurd (by simp [hk]) hn⟩
      rw [Instr.findAsking, Sem.run_bind, h1, he]
      simp [hk]
    · obtain ⟨r, r1, r2, r3⟩ := find_asking xs hx w es ks (i + 1) (fun q hq => hl q (by simp [hq])) h3
      refine ⟨r, ?_, fun hm => r2 ((List.mem_cons.1 hm).resolve_left hk), fun hn => r3 (fun hm => hn (by simp [hm]))⟩
      rw [Instr.findAsking, Sem.run_bind, h1, he]
      simp only [Result.andThen_ok, decide_eq_false hk, Bool.false_eq_true, if_false]
      exact r1

theorem find_key (xs : List Int) (hx : xs.length = 32) (w : World) (es : List MapEntry) (ks : List (List Int)) (hl : ∀ k ∈ ks, k.length = 32) (h : es.map (fun e => (e.key, e.val)) = ks.map (fun k => (Value.agg (B k), Value.agg #[]))) :
    ∃ r, (Instr.findKey 31 (.agg (B xs)) es).run Tryz.prog w = .ok r w ∧ (xs ∈ ks → ∃ j, r = some (j, .agg #[])) ∧ (xs ∉ ks → r = none) := by
  match es, ks, h with
  | [], ks, h =>
    have : ks = [] := by simpa using h.symm
    subst this
    refine ⟨none, ?_, fun h => by simp at h, fun _ => rfl⟩
    unfold Instr.findKey
    rw [Sem.run_bind, run_underlying u_path]
    simp [Instr.findNow]
  | e :: es, ks, h =>
    obtain ⟨r, r1, r2, r3⟩ := find_asking xs hx w (e :: es) ks 0 hl h
    refine ⟨r, ?_, r2, r3⟩
    unfold Instr.findKey
    rw [Sem.run_bind, run_underlying u_path]
    simp only [Result.andThen_ok, Instr.findNow, Instr.sameNow]
    exact r1

theorem u_keymap : Tryz.prog.underlying 142 = some (.map 31 143) := Tryz.underlying142

theorem zero_unit : ∀ w, (zeroValue 143).run Tryz.prog w = .ok (.agg #[]) w := Tryz.zeroValue143

/-- Is a key among them? -/
theorem wpList_look {ops : Array Oper} {rest : List Oper} {op : Oper} {a : Act} {Q : Exit → Act → World → Prop} (w : World) (hgd : op.guard = none) (m x : Operand) (ho : op.op = .lookup 142 m x true)
    (b : Nat) (ks : List (List Int)) (xs : List Int) (hm : a.eval m = .map (some b)) (hx : a.eval x = .agg (B xs)) (hl : xs.length = 32) (hk : ∀ k ∈ ks, k.length = 32) (h : KeysAt w b ks)
    (hK : wpList Tryz.prog ops Q rest (a.put op.dst (.tuple #[.agg #[], .bool (decide (xs ∈ ks))])) w) : wpList Tryz.prog ops Q (op :: rest) a w := by
  refine wpList_plain hgd fun K hK' => ?_
  obtain ⟨es, c, h1, h2⟩ := h
  obtain ⟨r, r1, r2, r3⟩ := find_key xs hl w es.toList ks hk h2
  have hrun : (Instr.lookup 142 (.map (some b)) (.agg (B xs)) true).run Tryz.prog w = .ok (.tuple #[.agg #[], .bool (decide (xs ∈ ks))]) w := by
    have go : (getObj b).run Tryz.prog w = .ok (.map es c) w := by simp [getObj, Sem.run, h1]
    unfold Instr.lookup
    by_cases hmem : xs ∈ ks
    · obtain ⟨j, rfl⟩ := r2 hmem
      simp [run_underlying u_keymap, go, check_path xs _ hl, r1, hmem, Result.andThen]
    · rw [r3 hmem] at r1
      simp [run_underlying u_keymap, go, check_path xs _ hl, r1, hmem, Result.andThen]
  unfold Oper.wp execOp
  simp only [ho, hm, hx, Sem.run_bind, hrun, Result.andThen_ok, Sem.run_pure]
  exact hK' _ _ hK

/-- One key more, that was not among them. -/
theorem wpList_keyPut {ops : Array Oper} {rest : List Oper} {op : Oper} {a : Act} {Q : Exit → Act → World → Prop} (w : World) (hgd : op.guard = none) (m x v : Operand) (ho : op.op = .mapUpdate 142 m x v)
    (b : Nat) (ks : List (List Int)) (xs : List Int) (hm : a.eval m = .map (some b)) (hx : a.eval x = .agg (B xs)) (hv : a.eval v = .agg #[]) (hl : xs.length = 32) (hk : ∀ k ∈ ks, k.length = 32) (hn : xs ∉ ks) (h : KeysAt w b ks)
    (hK : ∀ w', KeysAt w' b (ks ++ [xs]) → w.grownBy w' (some b) → wpList Tryz.prog ops Q rest (a.put op.dst undef) w') : wpList Tryz.prog ops Q (op :: rest) a w := by
  refine wpList_plain hgd fun K hK' => ?_
  have hb := h.lt
  obtain ⟨es, c, h1, h2⟩ := h
  obtain ⟨r, r1, _, r3⟩ := find_key xs hl w es.toList ks hk h2
  rw [r3 hn] at r1
  have hrun : (Instr.mapUpdate 142 (.map (some b)) (.agg (B xs)) (.agg #[])).run Tryz.prog w = .ok () { w with heap := w.heap.setIfInBounds b (.map (es.push { key := .agg (B xs), val := .agg #[], born := c }) (c + 1)) } := by
    unfold Instr.mapUpdate
    have go : (getObj b).run Tryz.prog w = .ok (.map es c) w := by simp [getObj, Sem.run, h1]
    have so : ∀ o, (setObj b o).run Tryz.prog w = .ok () { w with heap := w.heap.setIfInBounds b o } := fun o => by simp [setObj, Sem.run, h1]
    simp [run_underlying u_keymap, go, so, check_path xs _ hl, r1, Result.andThen]
  unfold Oper.wp execOp
  simp only [ho, hm, hx, hv, Sem.run_bind, hrun, Result.andThen_ok, Sem.run_pure]
  refine hK' _ _ (hK _ ⟨es.push { key := .agg (B xs), val := .agg #[], born := c }, c + 1, by simp [hb], by simp [h2]⟩ ⟨rfl, rfl, rfl, by simp, fun k _ hne => ?_⟩)
  have : b ≠ k := fun e => hne (by rw [e])
  simp [this]

end Go.Proofs.YtjikgagaalbaeaaGreatDoor
