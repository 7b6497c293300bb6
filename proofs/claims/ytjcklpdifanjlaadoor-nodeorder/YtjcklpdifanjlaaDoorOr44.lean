/- What NodeOrder asks, by definition: roots under a turned list, both sides' roots, the top of a key's way; entries turned about in memory. -/
import Derived.Test.YtjcklpdifanjlaaDoorOr39
import Derived.Test.YtjcklpdifanjlaaDoorOr40
import Derived.Test.YtjcklpdifanjlaaDoorOr43
import Derived.Test.YtjcklpdifanjlaaDoorOr31
namespace Go.Proofs.YtjcklpdifanjlaaDoor
set_option maxRecDepth 20000
open Go.RowKit

/-- May entries be, in another order. -/
theorem errB_perm {es fs : List Ent} (h : es.Perm fs) (hl : es.length ≤ 4096) : errB es = 0 ↔ errB fs = 0 := by
  have hl2 : fs.length ≤ 4096 := by rw [← h.length_eq]; exact hl
  have one : ∀ {a b : List Ent}, a.Perm b → a.length ≤ 4096 → b.length ≤ 4096 → errB a = 0 → errB b = 0 := by
    intro a b p q1 q2 e
    rw [errB, if_neg (by omega)] at e
    rw [errB, if_neg (by omega)]
    obtain ⟨h1, h2, _⟩ := lsE_ok [] a e
    refine lsE_of [] b (fun x hx => h1 x (p.mem_iff.2 hx)) ?_ (fun x _ => by simp)
    exact (List.Perm.pairwise_iff (fun {x y} hxy => Ne.symm hxy) p).1 h2
  exact ⟨one h hl hl2, one h.symm hl2 hl⟩

def rtH (es : List Ent) : List Int := if errB es = 0 then rt 256 0 es else z32
theorem rtH_len (es : List Ent) : (rtH es).length = 32 ∧ Bytes (rtH es) := by
  unfold rtH
  split
  · exact rt_len _ _ _
  · exact ⟨rfl, z32_bytes⟩
theorem rootIs_zero {es : List Ent} {h : List Int} {E : Int} (p : RootIs es 0 h E) : h = rtH es ∧ E = errB es := by
  unfold rtH
  cases p with
  | out q => omega
  | bad _ _ _ q1 q2 => rw [if_neg (by rw [q1]; exact q2)]; exact ⟨rfl, q1.symm⟩
  | part _ _ q1 q2 => exact absurd (fun _ _ _ _ j hj => by simp at hj) q2
  | good _ _ q1 q2 => rw [if_pos q1]; exact ⟨by simp, q1.symm⟩
theorem rtH_perm {es fs : List Ent} (h : es.Perm fs) (hl : es.length ≤ 4096) : rtH es = rtH fs := by
  unfold rtH
  by_cases e : errB es = 0
  · rw [if_pos e, if_pos ((errB_perm h hl).1 e)]
    exact rt_perm 256 0 es fs h
  · rw [if_neg e, if_neg (fun q => e ((errB_perm h hl).2 q))]

theorem errB_side {es : List Ent} (h : errB es = 0) (hl : es.length ≤ 4096) (d : Nat) (b : Int) : errB (sideOf es d b) = 0 := by
  rw [errB, if_neg (by omega)] at h
  obtain ⟨h1, h2, _⟩ := lsE_ok [] es h
  have h3 : (sideOf es d b).length ≤ es.length := List.length_filter_le _ _
  rw [errB, if_neg (by omega)]
  exact lsE_of [] _ (fun x hx => h1 x (List.mem_filter.1 hx).1) (h2.side d b) (fun x _ => by simp)
theorem rootIs_side {es : List Ent} {h : List Int} {E b : Int} (he : errB es = 0) (hl : es.length ≤ 4096) (p : RootIs (sideOf es 0 b) 1 h E) : h = rt 255 1 (sideOf es 0 b) ∧ E = 0 := by
  have e0 := errB_side he hl 0 b
  have hs : SameE (sideOf es 0 b) 1 := by
    intro x hx y hy j hj
    obtain rfl : j = 0 := by omega
    unfold sideOf at hx hy
    rw [List.mem_filter, beq_iff_eq, kbi_in _ _ (by omega)] at hx hy
    rw [hx.2, hy.2]
  cases p with
  | out q => omega
  | bad _ _ _ q1 q2 => exact absurd (q1.symm.trans e0) q2
  | part _ _ q1 q2 => exact absurd (by simpa using hs) q2
  | good _ _ q1 q2 => exact ⟨by simp, rfl⟩

theorem emz_dig : dig [0] = [110, 52, 11, 156, 255, 179, 122, 152, 156, 165, 68, 230, 187, 120, 10, 44, 120, 144, 29, 63, 179, 55, 56, 118, 133, 17, 163, 6, 23, 175, 160, 29] := by kernel_rfl
theorem emz_ne : emD ≠ z32 := by
  rw [emD, emz_dig]
  decide

/-- The top of a key's way. -/
theorem order_up {es : List Ent} {key : List Int} (he : errB es = 0) (hl : es.length ≤ 4096) (hk : ∀ e ∈ es, Key e.1) :
    ∃ k a b c d, wyN es key = nd k a b c d ∧ Nd k a b c d ∧ upH key (wyH es key) k a b c d = rt 256 0 es ∧ upE (wyH es key) k a b c d = 0 ∧ ((k = 1 ∧ a = key) ↔ key ∈ es.map (·.1)) := by
  have he' := he
  rw [errB, if_neg (by omega)] at he'
  obtain ⟨_, h2, _⟩ := lsE_ok [] es he'
  obtain ⟨u1, u2⟩ := up_way 256 0 es key (by omega) hk h2 (fun e _ j hj => by omega)
  have hH : wyH es key = sds 256 0 es key := by rw [wyH, if_pos he]
  have hN : wyN es key = endN (rst 256 0 es key) := by rw [wyN, if_pos he]
  have hle : (sds 256 0 es key).length ≤ 256 := sds_length _ _ _ _
  have hmem : ∀ e, e ∈ es → e.1 = key → e ∈ rst 256 0 es key := fun e h1 h2 => rst_mem 256 0 es key e (by omega) h1 h2
  have hsub : ∀ e, e ∈ rst 256 0 es key → e ∈ es := fun e h => rst_sub 256 0 es key e h
  rw [hH, hN]
  match hr : rst 256 0 es key, u1 with
  | [], _ =>
    rw [hr] at hmem u2
    rw [rt_nil] at u2
    have ok : okN 0 z32 z32 z32 z32 = true := by simp [okN]
    refine ⟨0, z32, z32, z32, z32, rfl, nd_zero, ?_, ?_, ?_⟩
    · rw [upH, if_neg (by omega), if_pos ⟨ok, by omega⟩, dgN, if_pos ok, txN, if_pos ok, if_neg (by omega), if_neg (by omega)]
      exact u2
    · rw [upE, if_neg (by omega), if_pos ⟨ok, by omega⟩]
    · constructor
      · intro h
        omega
      · intro h
        obtain ⟨e, h1, h2⟩ := List.mem_map.1 h
        exact absurd (hmem e h1 h2) (by simp)
  | [e], _ =>
    rw [hr] at hmem hsub u2
    rw [rt_one] at u2
    have hke := hk e (hsub e (by simp))
    have ok : okN 1 e.1 (vaD e.2) z32 z32 = true := by simp [okN]
    refine ⟨1, e.1, vaD e.2, z32, z32, rfl, ⟨by omega, by omega, hke.1, dig_length _, rfl, rfl, hke.2, dig_bytes _, z32_bytes, z32_bytes⟩, ?_, ?_, ?_⟩
    · rw [upH, if_neg (by omega), if_pos ⟨ok, by omega⟩, dgN, if_pos ok, txN, if_pos ok, if_pos rfl]
      exact u2
    · rw [upE, if_neg (by omega), if_pos ⟨ok, by omega⟩]
    · constructor
      · rintro ⟨_, h⟩
        exact List.mem_map.2 ⟨e, hsub e (by simp), h⟩
      · intro h
        obtain ⟨x, h1, h2⟩ := List.mem_map.1 h
        have := hmem x h1 h2
        obtain rfl : x = e := by simpa using this
        exact ⟨rfl, h2⟩

/-- Two entries turned about. -/
theorem swap_perm {α : Type} (l : List α) (x y : Nat) (hx : x < l.length) (hy : y < l.length) : ((l.set x l[y]).set y l[x]).Perm l := by
  have h := Array.swap_perm (xs := l.toArray) (i := x) (j := y) (by simpa using hx) (by simpa using hy)
  have h2 := Array.perm_iff_toList_perm.1 h
  simpa [Array.swap] using h2

theorem flatP_length (its : List (Ent × Value)) (h : ∀ p ∈ its, p.1.1.length = 32) : (flatP its).length = its.length * 33 := by
  induction its with
  | nil => rfl
  | cons p r ih =>
    have h1 := ih (fun q hq => h q (by simp [hq]))
    have h2 := encP_length p.1.1 p.2 (h p (by simp))
    simp only [flatP, List.flatMap_cons, List.length_append, List.length_cons] at h1 ⊢
    omega
theorem flatP_set : ∀ (its : List (Ent × Value)), (∀ p ∈ its, p.1.1.length = 32) → ∀ (i : Nat), i < its.length → ∀ (p : Ent × Value), (flatP its).take (i * 33) ++ (encP p.1.1 p.2 ++ (flatP its).drop (i * 33 + 33)) = flatP (its.set i p)
  | [], _, i, hi, _ => by simp at hi
  | q :: r, hl, 0, _, p => by
    have h1 := encP_length q.1.1 q.2 (hl q (by simp))
    simp only [flatP, List.flatMap_cons, List.set_cons_zero, Nat.zero_mul, List.take_zero, List.nil_append, Nat.zero_add]
    rw [List.drop_append_of_le_length (by omega), List.drop_eq_nil_of_le (by omega), List.nil_append]
  | q :: r, hl, i + 1, hi, p => by
    have h1 := encP_length q.1.1 q.2 (hl q (by simp))
    have ih := flatP_set r (fun x hx => hl x (by simp [hx])) i (by simpa using hi) p
    simp only [flatP, List.flatMap_cons, List.set_cons_succ] at ih ⊢
    rw [← ih, show (i + 1) * 33 = (encP q.1.1 q.2).length + i * 33 by omega, List.take_length_add_append, show (encP q.1.1 q.2).length + i * 33 + 33 = (encP q.1.1 q.2).length + (i * 33 + 33) by omega, List.drop_length_add_append, List.append_assoc]

theorem own_set {w : World} {base g n c i : Nat} {its : List (Ent × Value)} (h : w.ownsRow base 75 33 (.slice (some ⟨g, 0, none⟩) n c) n (flatP its)) (hn : its.length = n) (hl : ∀ q ∈ its, q.1.1.length = 32) (hi : i < n) (p : Ent × Value) (hp : p.1.1.length = 32) :
    (w.setCells g (i * 33) (encP p.1.1 p.2)).ownsRow base 75 33 (.slice (some ⟨g, 0, none⟩) n c) n (flatP (its.set i p)) := by
  have hl2 : ∀ q ∈ its.set i p, q.1.1.length = 32 := fun q hq => by
    rcases List.mem_or_eq_of_mem_set hq with hq | rfl
    · exact hl q hq
    · exact hp
  have e33 := encP_length p.1.1 p.2 hp
  rcases h.2 with ⟨e, e2⟩ | ⟨g', cap, cur, e, hb, hg, hc, hm, hs, ht⟩
  · omega
  · injection e with e1 e2 e3
    injection e1 with e1
    injection e1 with e1
    subst e1
    subst e3
    have hfit : i * 33 + (encP p.1.1 p.2).length ≤ cur.size := by rw [e33, hs]; omega
    have hB := Blk.cells (encP p.1.1 p.2) (i * 33) (show Blk w g 75 cur from hg) hfit
    refine ⟨by rw [flatP_length _ hl2, List.length_set, hn], .inr ⟨g, c, _, rfl, hb, hB, hc, hm, ?_, ?_⟩⟩
    · simp only [List.size_toArray, List.length_append, List.length_take, List.length_drop, Array.length_toList]
      omega
    · rw [← flatP_set its hl i (by omega) p, ← ht, e33]
      have hcl : cur.toList.length = c * 33 := by rw [Array.length_toList]; exact hs
      rw [List.take_take, List.drop_take, Nat.min_eq_left (by omega)]
      dsimp only
      rw [List.take_append, List.take_append, List.length_take, Nat.min_eq_left (by omega), List.take_take, Nat.min_eq_right (by omega), e33, List.take_of_length_le (l := encP p.1.1 p.2) (by omega)]
      congr 3

theorem own_range {w : World} {base g n c i : Nat} {its : List (Ent × Value)} (h : w.ownsRow base 75 33 (.slice (some ⟨g, 0, none⟩) n c) n (flatP its)) (hn : its.length = n) (hl : ∀ q ∈ its, q.1.1.length = 32) (hi : i < n) : w.rangeAt g (i * 33) (encP (its.getD i (e00, undef)).1.1 (its.getD i (e00, undef)).2) ∧ w.there g (i * 33) 33 := by
  rcases h.2 with ⟨e, e2⟩ | ⟨g', cap, cur, e, hb, hg, hc, hm, hs, ht⟩
  · omega
  · injection e with e1 e2 e3
    injection e1 with e1
    injection e1 with e1
    subst e1
    subst e3
    constructor
    · intro j u hu
      have e2 : its.getD i (e00, undef) = its[i] := by simp [List.getD, show i < its.length by omega]
      rw [e2] at hu
      have h1 := flatP_at its hl i (by omega) j u hu
      rw [← ht] at h1
      have h2 : (cur.toList)[i * 33 + j]? = some u := by
        rw [List.getElem?_take] at h1
        split at h1
        · exact h1
        · cases h1
      rw [cell_of_row w g _ cur _ _ hg]
      simpa using h2
    · exact Blk.there (show Blk w g 75 cur from hg) (i * 33) 33 (by rw [hs]; omega)

/-- Whether a key is among the first entries. -/
def thr (es : List Ent) (key : List Int) (k : Nat) : Bool := decide (key ∈ (es.take k).map (·.1))
theorem thr_step (es : List Ent) (key : List Int) (k : Nat) (hk : k < es.length) : thr es key (k + 1) = (thr es key k || decide ((es.getD k e00).1 = key)) := by
  unfold thr
  rw [keys_take es k hk, ← Bool.decide_or]
  congr 1
  simp only [List.mem_append, List.mem_singleton, eq_iff_iff]
  exact or_congr Iff.rfl eq_comm

/-- Own entries behind a store elsewhere. -/
theorem ownP_kept {w w' : World} {base n : Nat} {v : Value} {xs : List Value} {row : Option Nat} (h : w.ownsRow base 75 33 v n xs) (hg : w.grownBy w' row) (hne : v.ownBlock = none ∨ v.ownBlock ≠ row) : w'.ownsRow base 75 33 v n xs := h.kept hg hne

end Go.Proofs.YtjcklpdifanjlaaDoor

/- A region that draws its order, some of whose operations (the writers, Ws) write what others ahead of them read: what is held (S) is asked for as long as no writer has come up. -/
namespace Go.Proofs.YtjcklpdifanjlaaDoor
set_option maxRecDepth 20000
open Go Go.RowKit

section
variable {P : Program} {ops : Array Oper} {Q : Exit → Act → World → Prop} {md : Region.Mode} {S : World → Prop} {Ws : List Nat}

/-- A writer has come up. -/
def wrote (Ws : List Nat) (listed : Array Bool) : Bool := Ws.any fun L => listed.getD L false
theorem wrote_set {listed : Array Bool} {i : Nat} (h : Ws.contains i = false) : wrote Ws (listed.setIfInBounds i true) = wrote Ws listed := by
  unfold wrote
  apply Bool.eq_iff_iff.2
  simp only [List.any_eq_true]
  have hne : ∀ L ∈ Ws, i ≠ L := fun L hL e => by
    subst e
    simp at h
    exact h hL
  constructor
  · rintro ⟨L, h1, h2⟩
    exact ⟨L, h1, by rwa [getD_set_ne false (hne L h1)] at h2⟩
  · rintro ⟨L, h1, h2⟩
    exact ⟨L, h1, by rwa [getD_set_ne false (hne L h1)]⟩
theorem wrote_not {listed : Array Bool} {i n : Nat} (hs : ShutL md ops listed) (hi : listed.getD i false = false) (hld : (Ws.all fun L => leads md ops i n L) = true) : wrote Ws listed = false := by
  unfold wrote
  rw [Bool.eq_false_iff]
  intro h
  obtain ⟨L, h1, h2⟩ := List.any_eq_true.1 h
  have h3 := List.all_eq_true.1 hld L h1
  cases ho : ops[L]? with
  | none =>
    cases n with
    | zero => simp [leads] at h3
    | succ n => unfold leads at h3; rw [ho] at h3; cases h3
  | some o => exact leads_on hs hi n L h3 o ho (hs L o ho h2)

def wpAnyW (P : Program) (md : Region.Mode) (ops : Array Oper) (Q : Exit → Act → World → Prop) (S : World → Prop) (Ws : List Nat) : Nat → Array Bool → Act → World → Prop
  | 0, listed, a, w => Region.ready md ops listed = [] ∧ Q .normal a w
  | fuel + 1, listed, a, w =>
    (Region.ready md ops listed = [] → Q .normal a w) ∧
    ∀ i ∈ Region.ready md ops listed, wpOp P ops Q i (fun a' w' => (wrote Ws (listed.setIfInBounds i true) = true ∨ S w') ∧ wpAnyW P md ops Q S Ws fuel (listed.setIfInBounds i true) a' w') a w

theorem wpAny_of_wrote : ∀ (fuel : Nat) (listed : Array Bool) (a : Act) (w : World), wpAnyW P md ops Q S Ws fuel listed a w → wpAny P md ops Q fuel listed a w
  | 0, _, _, _, h => h
  | fuel + 1, _, _, _, h => ⟨h.1, fun i hi => wpOp_mono (fun a' w' h' => wpAny_of_wrote fuel _ a' w' h'.2) (h.2 i hi)⟩

theorem unlisted {listed : Array Bool} {i : Nat} (hr : i ∈ Region.ready md ops listed) : listed.getD i false = false := by
  have h0 := (mem_ready.1 hr).1
  rcases Nat.lt_or_ge i listed.size with h' | h'
  · simpa [h'] using h0
  · simp [Array.getElem?_eq_none h']

/-- One that reads what is held. -/
theorem wpAnyW_first {i n : Nat} {oi : Oper} {v : Value} (hi : ops[i]? = some oi) (hsel : ∀ (j : Nat) (o : Oper) cs b, ops[j]? = some o → o.op ≠ .select cs b)
    (hQ : ∀ c a w, Q (.panic c) (a.put oi.dst v) w → Q (.panic c) a w) (hld : (Ws.all fun L => leads md ops i n L) = true) (hiw : Ws.contains i = false) :
    ∀ (fuel : Nat) (listed : Array Bool) (a : Act) (w : World), ShutL md ops listed →
      (∀ j oj, ops[j]? = some oj → j ≠ i → listed.getD j true = false → (∀ e ∈ oj.after, Region.binds md e = true → e.on ≠ i) → oi.apart ops oj = true) →
      i ∈ Region.ready md ops listed → YieldsIf P ops S oi v a → S w →
      wpAnyW P md ops Q S Ws fuel (listed.setIfInBounds i true) (a.put oi.dst v) w → wpAnyW P md ops Q S Ws (fuel + 1) listed a w := by
  intro fuel
  induction fuel with
  | zero =>
    intro listed a w _ _ hr hy hS H
    refine ⟨fun h => (by rw [h] at hr; cases hr), fun j hj => ?_⟩
    by_cases hji : j = i
    · subst hji; exact hy.wpOp hi hS ⟨.inr hS, H⟩
    · have := ready_mono hj hji
      rw [H.1] at this
      cases this
  | succ fuel ih =>
    intro listed a w hsh hfree hr hy hS H
    refine ⟨fun h => (by rw [h] at hr; cases hr), fun j hj => ?_⟩
    by_cases hji : j = i
    · subst hji; exact hy.wpOp hi hS ⟨.inr hS, H⟩
    · have h1 := H.2 j (ready_mono hj hji)
      obtain ⟨hjun, oj, hoj, hall⟩ := mem_ready.1 hj
      have hi0 := unlisted hr
      have hnw : wrote Ws ((listed.setIfInBounds i true).setIfInBounds j true) = false := by
        rw [Array.setIfInBounds_comm _ _ (Ne.symm hji), wrote_set hiw]
        refine wrote_not (hsh.step hj) ?_ hld
        rw [getD_set_ne false hji]
        exact hi0
      have hnot : ∀ e ∈ oj.after, Region.binds md e = true → e.on ≠ i := fun e he hb heq => by
        have h1 := hall e he hb
        rw [heq, hi0] at h1
        cases h1
      have h2 := wpOp_putIf hoj (hfree j oj hoj hji hjun hnot) (fun cs b => hsel i oi cs b hi) (fun cs b => hsel j oj cs b hoj) hQ hy h1
      have hfree' : ∀ k ok, ops[k]? = some ok → k ≠ i → (listed.setIfInBounds j true).getD k true = false →
          (∀ e ∈ ok.after, Region.binds md e = true → e.on ≠ i) → oi.apart ops ok = true := fun k ok hk hki hun hno => by
        refine hfree k ok hk hki ?_ hno
        by_cases hjk : j = k
        · subst hjk; exact hjun
        · rw [getD_set_ne true hjk] at hun; exact hun
      refine wpOp_mono (fun a' w' h3 => ?_) h2
      have hS' : S w' := h3.2.1.resolve_left (by rw [hnw]; simp)
      refine ⟨.inr hS', ih (listed.setIfInBounds j true) a' w' (hsh.step hj) hfree' (ready_mono hr (Ne.symm hji)) h3.1 hS' ?_⟩
      rw [Array.setIfInBounds_comm _ _ hji]
      exact h3.2.2

/-- One that yields its value in whatever world. -/
theorem wpAnyW_pure {i : Nat} {oi : Oper} {v : Value} (hi : ops[i]? = some oi) (hsel : ∀ (j : Nat) (o : Oper) cs b, ops[j]? = some o → o.op ≠ .select cs b)
    (hQ : ∀ c a w, Q (.panic c) (a.put oi.dst v) w → Q (.panic c) a w) (hiw : Ws.contains i = false) :
    ∀ (fuel : Nat) (listed : Array Bool) (a : Act) (w : World),
      (∀ j oj, ops[j]? = some oj → j ≠ i → listed.getD j true = false → (∀ e ∈ oj.after, Region.binds md e = true → e.on ≠ i) → oi.apart ops oj = true) →
      i ∈ Region.ready md ops listed → YieldsIf P ops (fun _ => True) oi v a → (wrote Ws listed = true ∨ S w) →
      wpAnyW P md ops Q S Ws fuel (listed.setIfInBounds i true) (a.put oi.dst v) w → wpAnyW P md ops Q S Ws (fuel + 1) listed a w := by
  intro fuel
  induction fuel with
  | zero =>
    intro listed a w _ hr hy hS H
    refine ⟨fun h => (by rw [h] at hr; cases hr), fun j hj => ?_⟩
    by_cases hji : j = i
    · subst hji; exact hy.wpOp hi trivial ⟨by rw [wrote_set hiw]; exact hS, H⟩
    · have := ready_mono hj hji
      rw [H.1] at this
      cases this
  | succ fuel ih =>
    intro listed a w hfree hr hy hS H
    refine ⟨fun h => (by rw [h] at hr; cases hr), fun j hj => ?_⟩
    by_cases hji : j = i
    · subst hji; exact hy.wpOp hi trivial ⟨by rw [wrote_set hiw]; exact hS, H⟩
    · have h1 := H.2 j (ready_mono hj hji)
      obtain ⟨hjun, oj, hoj, hall⟩ := mem_ready.1 hj
      have hi0 := unlisted hr
      have hnot : ∀ e ∈ oj.after, Region.binds md e = true → e.on ≠ i := fun e he hb heq => by
        have h1 := hall e he hb
        rw [heq, hi0] at h1
        cases h1
      have h2 := wpOp_putIf hoj (hfree j oj hoj hji hjun hnot) (fun cs b => hsel i oi cs b hi) (fun cs b => hsel j oj cs b hoj) hQ hy h1
      have hfree' : ∀ k ok, ops[k]? = some ok → k ≠ i → (listed.setIfInBounds j true).getD k true = false →
          (∀ e ∈ ok.after, Region.binds md e = true → e.on ≠ i) → oi.apart ops ok = true := fun k ok hk hki hun hno => by
        refine hfree k ok hk hki ?_ hno
        by_cases hjk : j = k
        · subst hjk; exact hjun
        · rw [getD_set_ne true hjk] at hun; exact hun
      refine wpOp_mono (fun a' w' h3 => ?_) h2
      have hS' : wrote Ws (listed.setIfInBounds j true) = true ∨ S w' := by
        have := h3.2.1
        rwa [Array.setIfInBounds_comm _ _ (Ne.symm hji), wrote_set hiw] at this
      refine ⟨hS', ih (listed.setIfInBounds j true) a' w' hfree' (ready_mono hr (Ne.symm hji)) h3.1 hS' ?_⟩
      rw [Array.setIfInBounds_comm _ _ hji]
      exact h3.2.2

theorem wpAnyW_take {i : Nat} {oi : Oper} {v : Value} {fuel : Nat} {listed : Array Bool} {a : Act} {w : World} (hi : ops[i]? = some oi)
    (hs : Region.noSelect ops = true) (hf : Region.free md ops listed i = true) (hr : (Region.ready md ops listed).contains i = true) (hld : (Ws.all fun L => leads md ops i 40 L) = true) (hiw : Ws.contains i = false) (hsh : shutB md ops listed = true)
    (hQ : ∀ c a w, Q (.panic c) (a.put oi.dst v) w → Q (.panic c) a w) (hy : YieldsIf P ops S oi v a) (hS : S w)
    (h : wpAnyW P md ops Q S Ws fuel (listed.setIfInBounds i true) (a.put oi.dst v) w) : wpAnyW P md ops Q S Ws (fuel + 1) listed a w :=
  wpAnyW_first hi (Region.noSelect_spec hs) hQ hld hiw fuel listed a w (shutL_of hsh) (Region.free_spec hi hf) (by simpa using hr) hy hS h
theorem wpAnyW_take0 {i : Nat} {oi : Oper} {v : Value} {fuel : Nat} {listed : Array Bool} {a : Act} {w : World} (hi : ops[i]? = some oi)
    (hs : Region.noSelect ops = true) (hf : Region.free md ops listed i = true) (hr : (Region.ready md ops listed).contains i = true) (hiw : Ws.contains i = false)
    (hQ : ∀ c a w, Q (.panic c) (a.put oi.dst v) w → Q (.panic c) a w) (hy : YieldsIf P ops (fun _ => True) oi v a) (hS : wrote Ws listed = true ∨ S w)
    (h : wpAnyW P md ops Q S Ws fuel (listed.setIfInBounds i true) (a.put oi.dst v) w) : wpAnyW P md ops Q S Ws (fuel + 1) listed a w :=
  wpAnyW_pure hi (Region.noSelect_spec hs) hQ hiw fuel listed a w (Region.free_spec hi hf) (by simpa using hr) hy hS h

/-- A writer, or one that comes up behind a writer: nothing of S is shown. -/
theorem wpAnyW_one {fuel : Nat} {listed : Array Bool} {a : Act} {w : World} {i : Nat} {o : Oper} (ho : ops[i]? = some o) (hr : Region.ready md ops listed = [i]) (hw : wrote Ws (listed.setIfInBounds i true) = true)
    (h : ∀ K' : Act → World → Prop, Shut (∀ a w, wpAnyW P md ops Q S Ws fuel (listed.setIfInBounds i true) a w → K' a w) → if Region.wanted o (yielded ops a.tmps) = true then Oper.wp P o a w K' Q else K' (a.put o.dst undef) w) :
    wpAnyW P md ops Q S Ws (fuel + 1) listed a w := by
  refine ⟨fun h0 => ?_, fun j hj => ?_⟩
  · rw [hr] at h0
    cases h0
  · rw [hr] at hj
    obtain rfl : j = i := by simpa using hj
    exact wpOp_step ho (fun K' hK => h K' (fun a w hW => hK a w ⟨.inl hw, hW⟩))

theorem wpAnyW_done {fuel : Nat} {listed : Array Bool} {a : Act} {w : World} (he : Region.ready md ops listed = []) (h : Q .normal a w) : wpAnyW P md ops Q S Ws fuel listed a w := by
  cases fuel with
  | zero => exact ⟨he, h⟩
  | succ n => exact ⟨fun _ => h, by rw [he]; simp⟩

theorem wp_region_wrote {id : Nat} {a : Act} {w : World} (Ws : List Nat) (hm : P.follows .mixedOrders = true) (hS : S w.drew)
    (h : S w.drew → wpAnyW P .any ops Q S Ws ops.size (Array.replicate ops.size false) a w.drew) : (Code.region id ops true).wp P Q a w :=
  wp_region_any hm (wpAny_of_wrote _ _ _ _ (h hS))

end
end Go.Proofs.YtjcklpdifanjlaaDoor
