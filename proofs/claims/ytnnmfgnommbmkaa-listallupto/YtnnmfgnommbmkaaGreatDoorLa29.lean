/- The law's below (the entries of the leaves below a handle), as a contract. -/
import Derived.Test.YtnnmfgnommbmkaaGreatDoorLa01
import Derived.Test.YtnnmfgnommbmkaaGreatDoorLa24
import Derived.Test.YtnnmfgnommbmkaaGreatDoorLa28
import Derived.Test.YtnnmfgnommbmkaaGreatDoorLa02
import Derived.RangeFuncNested
import Derived.RangeFuncBound
import Derived.RangeFuncCalls
import Derived.RangeFuncLeaves
import Derived.Shelf.Abstract
import Derived.OwnWalkIn
import Derived.TacticsInMore
import Derived.LoopNIn
import Derived.LoopIn
import Derived.OrdersIn
namespace Go.Proofs.YtnnmfgnommbmkaaGreatDoor
set_option maxRecDepth 20000
open Go.RowKit

theorem wpList_appL2 {P : Program} {ops : Array Oper} {rest : List Oper} {o : Oper} {a : Act} {Q : Exit → Act → World → Prop} (w : World) (hgd : o.guard = none) (s x : Operand) (t : TypeId)
    (ho : o.op = .call { callee := .builtin .append, args := #[s, x], argTypes := #[t, t] })
    (e : TypeId) (size bytes : Nat) (ht : P.underlying t = some (.slice e)) (hin : ∃ i z, P.info? e = some i ∧ i.zero = some z ∧ i.size = size ∧ i.bytes = bytes ∧ z.cells.size = size) (hsz : 0 < size)
    (v : Value) (n : Nat) (xs : List Value) (hs : a.eval s = v) (hown : Lst w e size v n xs)
    (g : Nat) (news : List Value) (hx : a.eval x = .slice (some ⟨g, 0, none⟩) 2 2) (hb : Blk w g e news.toArray) (hl : news.length = 2 * size) (h1 : ∀ u ∈ news, u.oneCell' = true)
    (h63 : n + 2 ≤ maxLen) (hbytes : (n + 2) * bytes ≤ 140737488355328)
    (hk : ∀ v' w', Lst w' e size v' (n + 2) (xs ++ news) → w.grownBy w' v.ownBlock → WhereL w v v' → wpList P ops Q rest (a.put o.dst v') w') : wpList P ops Q (o :: rest) a w := by
  refine wpList_plain hgd fun K hK => ?_
  obtain ⟨i, z, hi, hz, hsize, hby, hzs⟩ := hin
  obtain ⟨v', w', hr, h2, h3, h4⟩ := run_appL (P := P) w t o.type e i z size bytes ht hi hz hsize hby hzs hsz v n xs hown ⟨g, 0, none⟩ 2 2 news (by omega) (by
    intro j q hq
    rw [Addr.add_lit, Nat.zero_add, hb.cell]
    simpa using hq) h1 (by omega) h63 hbytes
  unfold Oper.wp execOp
  simp only [ho, resolve, invoke, builtin, Sem.run_bind, Sem.run_pure, Result.andThen_ok, List.map_toArray, List.map_cons, List.map_nil, hs, hx, hr]
  exact hK _ _ (hk v' w' h2 h3 h4)

def p7Places : Nat → Option (Nat × Nat) := fun i => (#[(0, 32), (32, 1)] : Array (Nat × Nat))[i]?

theorem built_p7Eq (ps : List (Nat × Value)) : Tryz.prog.built 42 ps = Instr.fill p7Places (encP z32 (.slice none 0 0)).toArray ps := by kernel_rfl

theorem built_p7 (K : List Int) (a : Option Addr) (n c : Nat) (hk : K.length = 32) : Tryz.prog.built 42 [(0, .agg (B K)), (1, .slice a n c)] = some (encP K (.slice a n c)).toArray := by
  rw [built_p7Eq]
  rw [fill_one p7Places 0 0 32 (.agg (B K)) (K.map (Value.int .u8)) (encP z32 (.slice none 0 0)) _ rfl (cells_b K) (by simp [hk]) (by simp [encP, z32_length])]
  have e1 : (encP z32 (.slice none 0 0)).take 0 ++ (K.map (Value.int .u8) ++ (encP z32 (.slice none 0 0)).drop (0 + 32)) = K.map (Value.int .u8) ++ [.slice none 0 0] := by simp [encP, z32]
  first
    | rw [e1]
    | skip
  rw [fill_one p7Places 1 32 1 (.slice a n c) [.slice a n c] _ _ rfl rfl rfl (by simp [hk, encP, z32_length])]
  simp [encP, Instr.fill, hk, z32]

def tw (ps : List (Nat × Tre)) : Nat := (ps.map fun p => 1 + 2 * p.2.num).sum

theorem tw_len : ∀ ps : List (Nat × Tre), ps.length ≤ tw ps
  | [] => Nat.le_refl _
  | p :: ps => by
    have := tw_len ps
    simp only [tw, List.map_cons, List.sum_cons, List.length_cons] at this ⊢
    omega

def dq (cs : List (Nat × Ce)) (h : Nat) : Nat := if (sdC cs h).kind = 2 then (sdC cs h).dp else 256

theorem dq_side {cs : List (Nat × Ce)} {d h : Nat} {b : Int} (hd : d < 256) (s : SideOk cs d b h) : d + 1 ≤ dq cs h := by
  unfold dq
  rcases s with rfl | ⟨h1, _, _, h4⟩
  · have e : ¬ (sdC cs 0).kind = 2 := by
      show ¬ zc.kind = 2
      decide
    rw [if_neg e]
    omega
  · obtain ⟨i, rfl⟩ : ∃ i, h = i + 1 := ⟨h - 1, by omega⟩
    rw [Nat.add_sub_cancel] at h4
    rw [show sdC cs (i + 1) = ce cs i from rfl]
    split
    · rcases h4 with h4 | ⟨_, h4⟩
      · omega
      · omega
    · omega

theorem num_le {cs : List (Nat × Ce)} {pend : List Nat} (w : Wf cs pend) : ∀ (T : Tre) (h : Nat), IsT cs h T → T.num ≤ T.ents.length * (257 - dq cs h)
  | .emp, h, _ => Nat.zero_le _
  | .lf k b, h, ⟨h1, h2, h3, _⟩ => by
    obtain ⟨i, rfl⟩ : ∃ i, h = i + 1 := ⟨h - 1, by omega⟩
    rw [Nat.add_sub_cancel] at h3
    have : dq cs (i + 1) = 256 := by
      unfold dq
      rw [show sdC cs (i + 1) = ce cs i from rfl, if_neg (by omega)]
    rw [this]
    simp [Tre.num, Tre.ents]
  | .nd d hl hr L R, h, hT => by
    have hok := tree_ok w _ h hT
    have hp := hok.pos
    obtain ⟨h1, h2, h3, h4, h5, h6, h7, h8⟩ := hT
    obtain ⟨i, rfl⟩ : ∃ i, h = i + 1 := ⟨h - 1, by omega⟩
    rw [Nat.add_sub_cancel] at h2 h3 h4 h5 h6
    have a1 := num_le w L hl h7
    have a2 := num_le w R hr h8
    rcases w.tr i h2 with hn | hn
    · have := hn.kind; omega
    have hd := hn.dp
    have b1 := dq_side hd hn.sl
    have b2 := dq_side hd hn.sr
    rw [h4] at hd b1 b2
    rw [h5] at b1
    rw [h6] at b2
    have e : dq cs (i + 1) = d := by
      unfold dq
      rw [show sdC cs (i + 1) = ce cs i from rfl, if_pos h3, h4]
    have hpos : 0 < L.ents.length + R.ents.length := by
      have := hp (by omega)
      rw [Tre.ents] at this
      rw [← List.length_append]
      exact List.length_pos_iff.2 this
    rw [e, Tre.num, Tre.ents, List.length_append]
    have c1 : L.ents.length * (257 - dq cs hl) ≤ L.ents.length * (256 - d) := Nat.mul_le_mul_left _ (by omega)
    have c2 : R.ents.length * (257 - dq cs hr) ≤ R.ents.length * (256 - d) := Nat.mul_le_mul_left _ (by omega)
    have c3 : (L.ents.length + R.ents.length) * (257 - d) = L.ents.length * (256 - d) + R.ents.length * (256 - d) + (L.ents.length + R.ents.length) := by
      rw [show 257 - d = (256 - d) + 1 by omega, Nat.mul_add, Nat.mul_one, Nat.add_mul]
    omega

theorem lst_same {w : World} {e : TypeId} {k : Nat} {v : Value} {n n' : Nat} {xs xs' : List Value} (h : Lst w e k v n xs) (h' : Lst w e k v n' xs') : xs = xs' := by
  rcases h.2 with ⟨rfl, rfl⟩ | ⟨g, cap, cur, rfl, _, hg, _, _, _, ht⟩
  · rcases h'.2 with ⟨_, rfl⟩ | ⟨_, _, _, e, _⟩
    · have h1 := h.1
      have h2 := h'.1
      rw [Nat.zero_mul] at h1 h2
      rw [List.length_eq_zero_iff.1 h1, List.length_eq_zero_iff.1 h2]
    · cases e
  · rcases h'.2 with ⟨e, _⟩ | ⟨g', cap', cur', e, _, hg', _, _, _, ht'⟩
    · cases e
    · injection e with e1 e2 e3
      injection e1 with e1
      injection e1 with e1
      subst e1 e2
      rw [hg] at hg'
      injection hg' with hg'
      injection hg' with hg'
      subst hg'
      rw [← ht, ← ht']

theorem nats_inj {a b : List Nat} (h : nats a = nats b) : a = b := by
  unfold nats at h
  refine (List.map_inj_right ?_).1 h
  intro x y e
  injection e with _ e
  omega

theorem pairs_same {cs : List (Nat × Ce)} : ∀ (ps qs : List (Nat × Tre)), ps.map (·.1) = qs.map (·.1) → (∀ p ∈ ps, IsT cs p.1 p.2) → (∀ p ∈ qs, IsT cs p.1 p.2) → ps = qs
  | [], [], _, _, _ => rfl
  | [], _ :: _, h, _, _ => by simp at h
  | _ :: _, [], h, _, _ => by simp at h
  | (a, S) :: ps, (b, U) :: qs, h, h1, h2 => by
    simp only [List.map_cons, List.cons.injEq] at h
    obtain ⟨rfl, h⟩ := h
    have e := (h1 (a, S) (by simp)).one (h2 (a, U) (by simp))
    simp only at e
    subst e
    rw [pairs_same ps qs h (fun p hp => h1 p (List.mem_cons_of_mem _ hp)) (fun p hp => h2 p (List.mem_cons_of_mem _ hp))]

theorem tw_fun (cs : List (Nat × Ce)) : ∃ mea : Value → World → Nat, ∀ (v : Value) (w : World) (n : Nat) (ps : List (Nat × Tre)), Lst w 3 1 v n (nats (ps.map (·.1)).reverse) → (∀ p ∈ ps, IsT cs p.1 p.2) → mea v w = tw ps := by
  have h : ∀ (v : Value) (w : World), ∃ m : Nat, ∀ (n : Nat) (ps : List (Nat × Tre)), Lst w 3 1 v n (nats (ps.map (·.1)).reverse) → (∀ p ∈ ps, IsT cs p.1 p.2) → m = tw ps := fun v w => by
    by_cases e : ∃ (n : Nat) (ps : List (Nat × Tre)), Lst w 3 1 v n (nats (ps.map (·.1)).reverse) ∧ (∀ p ∈ ps, IsT cs p.1 p.2)
    · obtain ⟨n, ps, h1, h2⟩ := e
      refine ⟨tw ps, fun n' qs k1 k2 => ?_⟩
      have := nats_inj (lst_same h1 k1)
      rw [pairs_same ps qs (by simpa using this) h2 k2]
    · exact ⟨0, fun n ps k1 k2 => absurd ⟨n, ps, k1, k2⟩ e⟩
  exact ⟨fun v w => Classical.choose (h v w), fun v w => Classical.choose_spec (h v w)⟩

def Bl (w : World) (st : List Nat) (its : List (Ent × Value)) (vt vo : Value) (wr : World) : Prop :=
  Lst wr 3 1 vt st.length (nats st) ∧ (∀ k, vt.ownBlock = some k → w.heap.size ≤ k) ∧ wr.ownsRow w.heap.size 42 33 vo its.length (flatP its) ∧ (∀ p ∈ its, Key p.1.1 ∧ ∃ sp, Own w.heap.size wr p.2 p.1.2 sp) ∧ Below w.heap.size w wr

theorem tneB3 : (42 : Nat) ≠ 5 := by decide

theorem lst_of7 {w : World} {base : Nat} {e : TypeId} {k : Nat} {v : Value} {n : Nat} {xs : List Value} (h : w.ownsRow base e k v n xs) : Lst w e k v n xs := ⟨h.1, h.2.imp id (fun ⟨g, cap, cur, a1, _, a3⟩ => ⟨g, cap, cur, a1, Nat.zero_le _, a3⟩)⟩

theorem ownsRow_mod {w w' : World} {base : Nat} {e : TypeId} {k : Nat} {v : Value} {n : Nat} {xs : List Value} {S : List Nat} (h : w.ownsRow base e k v n xs) (m : Mod S w w') (hn : ∀ g, v.ownBlock = some g → g ∉ S) : w'.ownsRow base e k v n xs := by
  refine ⟨h.1, ?_⟩
  rcases h.2 with hh | ⟨g, cap, cur, rfl, hb, hgg, rest⟩
  · exact .inl hh
  · exact .inr ⟨g, cap, cur, rfl, hb, (m.block g (Array.getElem?_eq_some_iff.1 hgg).1 (hn g rfl)).trans hgg, rest⟩

def BelowPost (es : List Ent) (w : World) (e : Ending) (w' : World) : Prop := ∃ a c V, e = .returned (.slice a es.length c) ∧ PrAt w' (.slice a es.length c) V es ∧ Below w.heap.size w w'

end Go.Proofs.YtnnmfgnommbmkaaGreatDoor

namespace Go.Proofs.YtnnmfgnommbmkaaGreatDoor
set_option maxRecDepth 20000
open Go.RowKit

def SeqZ {α : Type} (F : Fence) (n : Nat) (P : Program) (g : Nat) (lb : Array Value) (encs : α → Array Value) (Z₀ : List Nat) (n₀ : Nat) (S Sp : List α → Prop) (N : Nat) (w : World) : Prop :=
  ∀ (l : Nat) (J : List α → List Nat → World → Prop) (Jx : List α → World → Prop) (W : World), Below w.heap.size w W →
    (∀ s Z Z' A B, J s Z A → (∀ z ∈ Z, z ∈ Z₀ ∨ W.heap.size ≤ z) → Mod Z A B → New Z A Z' → J s Z' B) →
    (∀ pre Z x A, J pre Z A → pre.length < N → (∀ z ∈ Z, (z ∈ Z₀ ∨ W.heap.size ≤ z) ∧ z < A.heap.size) → YieldAt F (n - 1) P l (encs x) A fun e B =>
      (e = .returned (.bool true) ∧ J (pre ++ [x]) Z B ∧ (∀ z ∈ Z, B.heap[z]? = A.heap[z]?) ∧ Below n₀ A B) ∨ (e = .returned (.bool false) ∧ Jx (pre ++ [x]) B)) →
    J [] Z₀ W →
    CallsIn F n P g (#[.func (.yield l) #[] #[]] ++ lb) W fun e B => (∃ v, e = .returned v) ∧ ((∃ xs Z, S xs ∧ J xs Z B) ∨ (∃ pre, Sp pre ∧ Jx pre B))

def outZ {α : Type} (b n₀ : Nat) (Z : List Nat) (I : List α → List Nat → World → Prop) (Ix : Code → List α → World → Prop) (xs : List α) (A : World) : Exit → Act → World → Prop
  | .normal, _, B => KeepsFrom b A B ∧ (∀ z ∈ Z, B.heap[z]? = A.heap[z]?) ∧ Below n₀ A B ∧ I xs Z B
  | .ret, _, B => KeepsFrom b A B ∧ Ix .ret xs B
  | .exit i, _, B => KeepsFrom b A B ∧ Ix (.exit i) xs B
  | .goto t, _, B => KeepsFrom b A B ∧ Ix (.goto t) xs B
  | .panic _, _, _ => False
  | .outgrown, _, _ => False

theorem zput_same {W : World} {l : Nat} {o : Obj} {Z : List Nat} (h : ∀ z ∈ Z, z ≠ l) : ∀ z ∈ Z, (W.putObj l o).heap[z]? = W.heap[z]? := fun z hz => World.putObj_heap_other (by have := h z hz; omega)

set_option maxHeartbeats 2000000 in
theorem wpIn_rangeZ {F : Fence} {n : Nat} {P : Program} {α : Type} {g : Operand} {ps : Array Tmp} {assign body : Code} {Q : Exit → Act → World → Prop} {a : Act} {w : World}
    (hro : F.round = none) (h1 : 1 ≤ n) {gf : Nat} {lb : Array Value} (hg : a.eval g = .func (.func gf) #[] lb) (hFg : F.fn gf) (eg : ∀ args w, (callFunc gf args).run P w = .ok (.enter gf args) w)
    {encs : α → Array Value} {Z₀ : List Nat} {n₀ : Nat} {S Sp : List α → Prop} {N : Nat} {w0 : World} (hseq : SeqZ F (n - 1) P gf lb encs Z₀ n₀ S Sp N w0) (hZ₀ : ∀ z ∈ Z₀, z < w.heap.size) (hn₀ : n₀ ≤ w.heap.size) (hb0 : Below w0.heap.size w0 w) (hps : ∀ x, (encs x).size = ps.size)
    (I : List α → List Nat → World → Prop) (Ix : Code → List α → World → Prop) (hIm : ∀ s Z Z' A B, I s Z A → (∀ z ∈ Z, z ∈ Z₀ ∨ w.heap.size ≤ z) → Mod Z A B → New Z A Z' → I s Z' B) (hI : ∀ Z, OwnFrom w.heap.size (fun s => I s Z)) (hIx : ∀ c, OwnFrom w.heap.size (Ix c)) (h0 : I [] Z₀ w) (a₁ : α → Act)
    (hassign : ∀ (l : Nat) (x : α) (W : World) (K : Act → World → Prop), K (a₁ x) W →
      assign.wpIn (F.inRound l) (n - 1 - 1) P (Exit.then K (fun _ _ _ => False)) { tmps := (ps.zip (encs x)).foldl (fun t (p, v) => t.setIfInBounds p v) a.tmps, defers := [] } W)
    (hbody : ∀ (l : Nat) (pre : List α) (Z : List Nat) (x : α) (W : World), I pre Z W → pre.length < N → (∀ z ∈ Z, (z ∈ Z₀ ∨ w.heap.size ≤ z) ∧ z < W.heap.size) → body.wpIn (F.inRound l) (n - 1 - 1) P (outZ w.heap.size n₀ Z I Ix (pre ++ [x]) W) (a₁ x) W)
    (hdone : ∀ (D : Nat) (xs : List α) (Z : List Nat) (W : World), w.heap.size ≤ D → S xs → I xs Z W → W.heap[D]? = some (.deferred (some [])) → Q .normal { a with defers := { target := .collected D, args := #[] } :: a.defers } W)
    (hstop : ∀ (D : Nat) (c : Code) (pre : List α) (W : World), w.heap.size ≤ D → Sp pre → Ix c pre W → W.heap[D]? = some (.deferred (some [])) → c.wpIn F n P Q { a with defers := { target := .collected D, args := #[] } :: a.defers } W) :
    (Code.rangeFunc g ps assign body).wpIn F n P Q a w := by
  refine wpIn_rangeFunc fun fn hfn => ?_
  rw [hro]
  obtain ⟨R, hR⟩ : ∃ R : LoopState → Option Code → Loop, R = fun st pe => { state := st, pending := pe, fn, tmps := a.tmps, params := ps, assign, body, defers := w.heap.size } := ⟨_, rfl⟩
  obtain ⟨V, hV⟩ : ∃ V, V = (w.alloc (.deferred (some []))).alloc (.loop (R .ready none)) := ⟨_, rfl⟩
  have sV : V.heap.size = w.heap.size + 1 + 1 := by rw [hV]; simp
  have bV : Below w.heap.size w V := by rw [hV]; exact grow_trans (grow_alloc _ _) (grow_alloc _ _)
  have LV : V.heap[w.heap.size + 1]? = some (.loop (R .ready none)) := by
    have := World.alloc_heap_new (w.alloc (.deferred (some []))) (.loop (R .ready none))
    rw [World.size_alloc] at this
    rw [hV]
    exact this
  have DV : V.heap[w.heap.size]? = some (.deferred (some [])) := by
    rw [hV]
    exact (Below.heap_alloc _ _ _ (by simp)).trans (World.alloc_heap_new w _)
  have IV : I [] Z₀ V := by
    rw [hV]
    exact (hI Z₀).alloc _ ((hI Z₀).alloc _ h0)
  refine ⟨w.heap.size + 1, [{ target := .collected w.heap.size, args := #[] }], V, { target := .fn (.func gf) lb, args := #[.func (.yield (w.heap.size + 1)) #[] #[]] }, V, gf, #[.func (.yield (w.heap.size + 1)) #[] #[]] ++ lb, V, ?_, ?_, ?_, ?_, fun _ => h1, ?_⟩
  · rw [hV, hR]
    exact run_enterLoop_outer _ _ _ _ _
  · simp only [resolve, hg]
    simp [go_sem]
  · intro f' hf'
    simp [Target.leads] at hf'
    subst hf'
    exact hFg
  · simp [invoke, go_sem, eg]
  refine (hseq (w.heap.size + 1) (fun s Z A => I s Z A ∧ A.heap[w.heap.size + 1]? = some (.loop (R .ready none)) ∧ A.heap[w.heap.size]? = some (.deferred (some []))) (fun s A => ∃ c, Ix c s A ∧ A.heap[w.heap.size + 1]? = some (.loop (R .done (some c))) ∧ A.heap[w.heap.size]? = some (.deferred (some []))) V (hb0.trans (bV.mono hb0.size)) ?_ ?_ ⟨IV, LV, DV⟩).mono ?_
  · rintro s Z Z' A B ⟨q1, q2, q3⟩ hz m hn
    have hz2 : ∀ z ∈ Z, z ≠ w.heap.size + 1 ∧ z ≠ w.heap.size := fun z h => by
      rcases hz z h with e | e
      · have := hZ₀ z e
        omega
      · omega
    exact ⟨hIm s Z Z' A B q1 (fun z h => (hz z h).imp id (fun e => by omega)) m hn, (m.block _ (Array.getElem?_eq_some_iff.1 q2).1 (fun h => (hz2 _ h).1 rfl)).trans q2, (m.block _ (Array.getElem?_eq_some_iff.1 q3).1 (fun h => (hz2 _ h).2 rfl)).trans q3⟩
  · rintro pre Z x A ⟨q1, q2, q3⟩ hlen hz
    have hz2 : ∀ z ∈ Z, z ≠ w.heap.size + 1 := fun z h => by
      rcases (hz z h).1 with e | e
      · have := hZ₀ z e
        omega
      · omega
    have hlt : w.heap.size + 1 < A.heap.size := (Array.getElem?_eq_some_iff.1 q2).1
    have hy := run_yield (P := P) (args := encs x) q2 (by rw [hR]; exact hps x)
    rw [hR] at hy
    refine ⟨fn, _, assign, body, hy, roundIn_of_wpIn hfn (hassign _ x A _ ⟨_, run_beginRound q2 (by rw [hR]), ?_⟩)⟩
    obtain ⟨A', hA'⟩ : ∃ A', A' = A.putObj (w.heap.size + 1) (.loop { R .ready none with state := .busy }) := ⟨_, rfl⟩
    have sA : A'.heap.size = A.heap.size := by rw [hA']; simp [World.putObj]
    have L2 : A'.heap[w.heap.size + 1]? = some (.loop { R .ready none with state := .busy }) := by rw [hA']; exact World.putObj_heap_same hlt
    have D2 : A'.heap[w.heap.size]? = some (.deferred (some [])) := by rw [hA']; exact (World.putObj_heap_other (by omega)).trans q3
    have I2 : I pre Z A' := by rw [hA']; exact (hI Z).putObj _ q1 (by omega) q2 rfl
    have Z2 : ∀ z ∈ Z, A'.heap[z]? = A.heap[z]? := by rw [hA']; exact zput_same hz2
    have B2 : Below n₀ A A' := by rw [hA']; exact belowK_b (w := w) hn₀ A _ _ _ (by omega) q2 rfl rfl
    rw [← hA']
    refine wpIn_mono (hbody _ pre Z x A' I2 hlen (fun z h => ⟨(hz z h).1.imp id (fun e => by omega), by rw [sA]; exact (hz z h).2⟩)) ?_
    have fin : ∀ (j : Option Code) (C : World), KeepsFrom w.heap.size A' C →
        (Instr.endRound (w.heap.size + 1) j).run P C = .ok (.bool j.isNone) (C.putObj (w.heap.size + 1) (.loop (R (if j.isNone then .ready else .done) j))) ∧ C.heap[w.heap.size + 1]? = some (.loop { R .ready none with state := .busy }) ∧
        (C.putObj (w.heap.size + 1) (.loop (R (if j.isNone then .ready else .done) j))).heap[w.heap.size + 1]? = some (.loop (R (if j.isNone then .ready else .done) j)) ∧
        (C.putObj (w.heap.size + 1) (.loop (R (if j.isNone then .ready else .done) j))).heap[w.heap.size]? = some (.deferred (some [])) := fun j C hk => by
      have L3 := hk.same _ _ (by omega) L2 rfl
      have e := run_endRound (P := P) j L3
      rw [hR] at e ⊢
      exact ⟨e, by rw [hR] at L3; exact L3, World.putObj_heap_same (Array.getElem?_eq_some_iff.1 L3).1, (World.putObj_heap_other (by omega)).trans (hk.same _ _ (Nat.le_refl _) D2 rfl)⟩
    intro e a3 C hp
    cases e with
    | normal =>
      obtain ⟨k1, k2, k3, k4⟩ := hp
      obtain ⟨r, l3, l4, d4⟩ := fin none C k1
      refine ⟨_, _, r, .inl ⟨rfl, ⟨(hI Z).putObj _ k4 (by omega) l3 rfl, l4, d4⟩, fun z h => ?_, (B2.trans k3).trans (belowK_b (w := w) hn₀ C _ _ _ (by omega) l3 rfl rfl)⟩⟩
      rw [zput_same hz2 z h, k2 z h, Z2 z h]
    | ret =>
      obtain ⟨k1, k2⟩ := hp
      obtain ⟨r, l3, l4, d4⟩ := fin (some .ret) C k1
      exact ⟨_, _, r, .inr ⟨rfl, .ret, (hIx _).putObj _ k2 (by omega) l3 rfl, l4, d4⟩⟩
    | exit i =>
      obtain ⟨k1, k2⟩ := hp
      obtain ⟨r, l3, l4, d4⟩ := fin (some (.exit i)) C k1
      exact ⟨_, _, r, .inr ⟨rfl, .exit i, (hIx _).putObj _ k2 (by omega) l3 rfl, l4, d4⟩⟩
    | goto t =>
      obtain ⟨k1, k2⟩ := hp
      obtain ⟨r, l3, l4, d4⟩ := fin (some (.goto t)) C k1
      exact ⟨_, _, r, .inr ⟨rfl, .goto t, (hIx _).putObj _ k2 (by omega) l3 rfl, l4, d4⟩⟩
    | panic _ => exact hp.elim
    | outgrown => exact hp.elim
  · rintro e C ⟨⟨v, rfl⟩, ⟨xs, Z, hS, q1, q2, q3⟩ | ⟨pre, hSp, c, q1, q2, q3⟩⟩
    · exact ⟨none, _, by have := run_endLoop (P := P) q2 (by rw [hR]; simp); rw [hR] at this; exact this, hdone _ xs Z _ (Nat.le_refl _) hS ((hI Z).putObj _ q1 (by omega) q2 rfl) ((World.putObj_heap_other (by omega)).trans q3)⟩
    · exact ⟨some c, _, by have := run_endLoop (P := P) q2 (by rw [hR]; simp); rw [hR] at this; exact this, hstop _ c pre _ (Nat.le_refl _) hSp ((hIx c).putObj _ q1 (by omega) q2 rfl) ((World.putObj_heap_other (by omega)).trans q3)⟩

end Go.Proofs.YtnnmfgnommbmkaaGreatDoor

namespace Go.Proofs.YtnnmfgnommbmkaaGreatDoor
set_option maxRecDepth 20000
open Go.RowKit

def Wide (F : Fence) : Prop := F = Fence.wide ∨ ∃ l, F = Fence.wide.inRound l

theorem Wide.calls {F : Fence} (hF : Wide F) {n : Nat} {P : Program} {f : FuncId} {args : Array Value} {w : World} {R : Ending → World → Prop} (h : Calls P f args w R) : CallsIn F n P f args w R := by
  rcases hF with rfl | ⟨l, rfl⟩
  · exact callsIn_wide.2 h
  · exact CallsIn.inRound l (callsIn_wide.2 h)
theorem Wide.rows {F : Fence} (hF : Wide F) {n : Nat} {P : Program} {row : String} {args : Array Value} {w : World} {R : Value → World → Prop} (h : Rows P row args w R) : RowsIn F n P row args w R := by
  have h1 : RowsIn Fence.wide n P row args w R := fun c cs _ => let ⟨v, w', r, s⟩ := h c cs; ⟨v, w', r, stepsIn_wide.2 s⟩
  rcases hF with rfl | ⟨l, rfl⟩
  · exact h1
  · exact h1
theorem Wide.fn {F : Fence} (hF : Wide F) (f : FuncId) : F.fn f := by
  rcases hF with rfl | ⟨l, rfl⟩ <;> trivial
theorem Wide.depth {F : Fence} (hF : Wide F) : F.depth = none := by
  rcases hF with rfl | ⟨l, rfl⟩ <;> rfl

theorem oper_in {F : Fence} (hF : Wide F) {n : Nat} {P : Program} {o : Oper} {a : Act} {w : World} {K : Act → World → Prop} {Q : Exit → Act → World → Prop} (hd : ∀ c, o.op ≠ .defer c) (h : o.wp P a w K Q) : o.wpIn F n P a w K Q := by
  unfold Oper.wpIn
  refine ⟨fun f _ => hF.fn f, ?_⟩
  rw [Oper.semAt_plain F _ _ hd]
  unfold Oper.wp at h
  generalize (execOp a.eval o).run P w = r at h
  cases r with
  | ok v w' =>
    cases v with
    | value v => exact h
    | skip => exact h
    | defer d => exact h
    | enter f args => exact ⟨fun e => (by rw [hF.depth] at e; cases e), hF.calls h⟩
    | row row args => exact ⟨fun e => (by rw [hF.depth] at e; cases e), hF.rows h⟩
    | _ => exact h.elim
  | halt c w' =>
    cases c with
    | panic v => exact h
    | _ => exact h.elim

theorem inList {F : Fence} (hF : Wide F) {n : Nat} {P : Program} {ops : Array Oper} {rest : List Oper} {o : Oper} {a : Act} {w : World} {Q : Exit → Act → World → Prop} (hd : ∀ c, o.op ≠ .defer c)
    (h : wpList P ops (fun e a' w' => e = .normal ∧ wpListIn F n P ops Q rest a' w') [o] a w) : wpListIn F n P ops Q (o :: rest) a w := by
  simp only [wpList] at h
  simp only [wpListIn]
  split at h
  · rename_i hw
    rw [if_pos hw]
    rcases h with h | ⟨_, a₀, w₀, h, _⟩
    · have := oper_in (n := n) hF hd h
      unfold Oper.wpIn at this ⊢
      refine ⟨this.1, ?_⟩
      have h2 := this.2
      generalize (o.semAt F.round a.eval).run P w = r at h2 ⊢
      cases r with
      | ok v w' =>
        cases v with
        | value v => exact h2.2
        | skip => exact h2.2
        | defer d => exact h2.2
        | enter f args =>
          refine ⟨h2.1, h2.2.mono (fun e w'' q => ?_)⟩
          cases e with
          | returned v => exact q.2
          | panicked c => cases q.1
          | outgrown =>
            obtain ⟨_, _, q, _⟩ := q
            cases q
        | row row args => exact ⟨h2.1, h2.2.mono (fun _ _ q => q.2)⟩
        | round l f tmps assign body =>
          refine ⟨h2.1, h2.2.mono (fun e w'' q => ?_)⟩
          cases e with
          | returned v => exact q.2
          | panicked c => cases q.1
          | outgrown =>
            obtain ⟨_, _, q, _⟩ := q
            cases q
        | _ => exact h2.elim
      | halt c w' =>
        cases c with
        | panic v => cases h2.1
        | _ => exact h2.elim
    · cases h
  · rename_i hw
    rw [if_neg hw]
    exact ⟨fun f _ => hF.fn f, h.2⟩

theorem opIn {F : Fence} (hF : Wide F) {n : Nat} {P : Program} {ops : Array Oper} {Q : Exit → Act → World → Prop} (hd : ∀ (i : Nat) o c, ops[i]? = some o → o.op ≠ .defer c) {i : Nat} {K K' : Act → World → Prop} (hK : ∀ a w, K a w → K' a w) {a : Act} {w : World}
    (h : wpOp P ops (fun e a' w' => e = .normal ∧ Q .normal a' w') i K a w) : wpOpIn F n P ops Q i K' a w := by
  unfold wpOp at h
  unfold wpOpIn
  cases ho : ops[i]? with
  | none =>
    rw [ho] at h
    exact hK _ _ h
  | some o =>
    rw [ho] at h
    simp only at h ⊢
    by_cases hw : Region.wanted o (yielded ops a.tmps) = true
    · rw [if_pos hw] at h ⊢
      rcases h with h | ⟨_, a₀, w₀, h, _⟩
      · have := oper_in (n := n) hF (fun c => hd i o c ho) h
        unfold Oper.wpIn at this ⊢
        refine ⟨this.1, ?_⟩
        have h2 := this.2
        generalize (o.semAt F.round a.eval).run P w = r at h2 ⊢
        cases r with
        | ok v w' =>
          cases v with
          | value v => exact hK _ _ h2
          | skip => exact hK _ _ h2
          | defer d => exact hK _ _ h2
          | enter f args =>
            refine ⟨h2.1, h2.2.mono (fun e w'' q => ?_)⟩
            cases e with
            | returned v => exact hK _ _ q
            | panicked c => cases q.1
            | outgrown =>
              obtain ⟨_, _, q, _⟩ := q
              cases q
          | row row args => exact ⟨h2.1, h2.2.mono (fun _ _ q => hK _ _ q)⟩
          | round l f tmps assign body =>
            refine ⟨h2.1, h2.2.mono (fun e w'' q => ?_)⟩
            cases e with
            | returned v => exact hK _ _ q
            | panicked c => cases q.1
            | outgrown =>
              obtain ⟨_, _, q, _⟩ := q
              cases q
          | _ => exact h2.elim
        | halt c w' =>
          cases c with
          | panic v => cases h2.1
          | _ => exact h2.elim
      · cases h
    · rw [if_neg hw] at h ⊢
      exact ⟨fun f _ => hF.fn f, hK _ _ h⟩

theorem anyIn {F : Fence} (hF : Wide F) {n : Nat} {P : Program} {md : Region.Mode} {ops : Array Oper} {Q : Exit → Act → World → Prop} (hd : ∀ (i : Nat) o c, ops[i]? = some o → o.op ≠ .defer c) : ∀ (fuel : Nat) (listed : Array Bool) (a : Act) (w : World), wpAny P md ops (fun e a' w' => e = .normal ∧ Q .normal a' w') fuel listed a w → wpAnyIn F n P md ops Q fuel listed a w
  | 0, _, _, _, h => ⟨h.1, h.2.2⟩
  | fuel + 1, _, _, _, h => ⟨fun e => (h.1 e).2, fun i hi => opIn hF hd (fun a w q => anyIn hF hd fuel _ a w q) (h.2 i hi)⟩

theorem drawIn {F : Fence} (hF : Wide F) {n : Nat} {P : Program} {id : Nat} {ops : Array Oper} {Q : Exit → Act → World → Prop} {a : Act} {w : World} (hm : P.follows .mixedOrders = true) (hd : (ops.all fun o => match o.op with | .defer _ => false | _ => true) = true)
    (h : wpAny P .any ops (fun e a' w' => e = .normal ∧ Q .normal a' w') ops.size (Array.replicate ops.size false) a w.drew) : (Code.region id ops true).wpIn F n P Q a w :=
  wpIn_region_any hm (anyIn hF (fun i o c ho e => by
    rw [Array.all_eq_true_iff_forall_mem] at hd
    have := hd o (Array.mem_of_getElem? ho)
    rw [e] at this
    cases this) _ _ _ _ h)

theorem readyIn {F : Fence} (hF : Wide F) {n : Nat} {P : Program} {md : Region.Mode} {ops : Array Oper} {Q : Exit → Act → World → Prop} {fuel : Nat} {listed : Array Bool} {a : Act} {w : World} {i : Nat} {o : Oper} {rs : List Nat} (ho : ops[i]? = some o) (hd : ∀ c, o.op ≠ .defer c)
    (h : ∀ K' : Act → World → Prop, (∀ a w, wpAnyIn F n P md ops Q fuel (listed.setIfInBounds i true) a w → K' a w) → if Region.wanted o (yielded ops a.tmps) = true then Oper.wp P o a w K' (fun _ _ _ => False) else K' (a.put o.dst undef) w)
    (hs : AllReadyIn F n P md ops Q fuel listed a w rs) : AllReadyIn F n P md ops Q fuel listed a w (i :: rs) := by
  refine AllReadyIn.cons ho (fun K' hK => ?_) hs
  have h1 := h K' hK
  by_cases hw : Region.wanted o (yielded ops a.tmps) = true
  · rw [if_pos hw] at h1 ⊢
    have := oper_in (n := n) hF hd h1
    unfold Oper.wpIn at this ⊢
    refine ⟨this.1, ?_⟩
    have h2 := this.2
    generalize (o.semAt F.round a.eval).run P w = r at h2 ⊢
    cases r with
    | ok v w' =>
      cases v with
      | enter f args =>
        refine ⟨h2.1, h2.2.mono (fun e w'' q => ?_)⟩
        cases e with
        | returned v => exact q
        | panicked c => exact q.elim
        | outgrown =>
          obtain ⟨_, _, q⟩ := q
          exact q.elim
      | round l f tmps assign body =>
        refine ⟨h2.1, h2.2.mono (fun e w'' q => ?_)⟩
        cases e with
        | returned v => exact q
        | panicked c => exact q.elim
        | outgrown =>
          obtain ⟨_, _, q⟩ := q
          exact q.elim
      | _ => exact h2
    | halt c w' =>
      cases c with
      | panic v => exact h2.elim
      | _ => exact h2.elim
  · rw [if_neg hw] at h1 ⊢
    exact ⟨fun f _ => hF.fn f, h1⟩

end Go.Proofs.YtnnmfgnommbmkaaGreatDoor
