/- What NodeOrder asks, by definition: roots under a turned list, both sides' roots, the top of a key's way; entries turned about in memory. -/
import Derived.Test.YtdpaanidangnlaaGreatDoorWw37
import Derived.Test.YtdpaanidangnlaaGreatDoorWw32
import Derived.Test.YtdpaanidangnlaaGreatDoorWw40
import Derived.Test.YtdpaanidangnlaaGreatDoorWw38
import Derived.Test.YtdpaanidangnlaaGreatDoorWw30
namespace Go.Proofs.YtdpaanidangnlaaGreatDoor
set_option maxRecDepth 20000
open Go.RowKit

/-- May entries be, in another order. -/
theorem errB_perm {es fs : List Ent} (h : es.Perm fs) (hl : es.length ≤ 4096) : errB es = 0 ↔ errB fs = 0 := by
  have hl2 : fs.length ≤ 4096 := by rw [← h.length_eq]; exact hl
  have one : ∀ {a b : List Ent}, a.Perm b → a.length ≤ 4096 → b.length ≤ 4096 → errB a = 0 → errB b = 0 := by
    intro a b p q1 q2 e
    rw [errB, if_neg (by omega)] at e
    rw [errB, if_neg (by omega)]
    obtain ⟨h1, h2, _⟩ := lsE_ok [] a e
    refine lsE_of [] b (fun x hx => h1 x (p.mem_iff.2 hx)) ?_ (fun x _ => by simp)
    exact (List.Perm.pairwise_iff (fun {x y} hxy => Ne.symm hxy) p).1 h2
  exact ⟨one h hl hl2, one h.symm hl2 hl⟩

def rtH (es : List Ent) : List Int := if errB es = 0 then rt 256 0 es else z32
theorem rtH_len (es : List Ent) : (rtH es).length = 32 ∧ Bytes (rtH es) := by
  unfold rtH
  split
  · exact rt_len _ _ _
  · exact ⟨rfl, z32_bytes⟩
theorem rootIs_zero {es : List Ent} {h : List Int} {E : Int} (p : RootIs es 0 h E) : h = rtH es ∧ E = errB es := by
  unfold rtH
  cases p with
  | out q => omega
  | bad _ _ _ q1 q2 => rw [if_neg (by rw [q1]; exact q2)]; exact ⟨rfl, q1.symm⟩
  | part _ _ q1 q2 => exact absurd (fun _ _ _ _ j hj => by simp at hj) q2
  | good _ _ q1 q2 => rw [if_pos q1]; exact ⟨by simp, q1.symm⟩
theorem rtH_perm {es fs : List Ent} (h : es.Perm fs) (hl : es.length ≤ 4096) : rtH es = rtH fs := by
  unfold rtH
  by_cases e : errB es = 0
  · rw [if_pos e, if_pos ((errB_perm h hl).1 e)]
    exact rt_perm 256 0 es fs h
  · rw [if_neg e, if_neg (fun q => e ((errB_perm h hl).2 q))]

theorem errB_side {es : List Ent} (h : errB es = 0) (hl : es.length ≤ 4096) (d : Nat) (b : Int) : errB (sideOf es d b) = 0 := by
  rw [errB, if_neg (by omega)] at h
  obtain ⟨h1, h2, _⟩ := lsE_ok [] es h
  have h3 : (sideOf es d b).length ≤ es.length := List.length_filter_le _ _
  rw [errB, if_neg (by omega)]
  exact lsE_of [] _ (fun x hx => h1 x (List.mem_filter.1 hx).1) (h2.side d b) (fun x _ => by simp)
theorem rootIs_side {es : List Ent} {h : List Int} {E b : Int} (he : errB es = 0) (hl : es.length ≤ 4096) (p : RootIs (sideOf es 0 b) 1 h E) : h = rt 255 1 (sideOf es 0 b) ∧ E = 0 := by
  have e0 := errB_side he hl 0 b
  have hs : SameE (sideOf es 0 b) 1 := by
    intro x hx y hy j hj
    obtain rfl : j = 0 := by omega
    unfold sideOf at hx hy
    rw [List.mem_filter, beq_iff_eq, kbi_in _ _ (by omega)] at hx hy
    rw [hx.2, hy.2]
  cases p with
  | out q => omega
  | bad _ _ _ q1 q2 => exact absurd (q1.symm.trans e0) q2
  | part _ _ q1 q2 => exact absurd (by simpa using hs) q2
  | good _ _ q1 q2 => exact ⟨by simp, rfl⟩

theorem emz_dig : dig [0] = [110, 52, 11, 156, 255, 179, 122, 152, 156, 165, 68, 230, 187, 120, 10, 44, 120, 144, 29, 63, 179, 55, 56, 118, 133, 17, 163, 6, 23, 175, 160, 29] := by kernel_rfl
theorem emz_ne : emD ≠ z32 := by
  rw [emD, emz_dig]
  decide

/-- The top of a key's way. -/
theorem order_up {es : List Ent} {key : List Int} (he : errB es = 0) (hl : es.length ≤ 4096) (hk : ∀ e ∈ es, Key e.1) :
    ∃ k a b c d, wyN es key = nd k a b c d ∧ Nd k a b c d ∧ upH key (wyH es key) k a b c d = rt 256 0 es ∧ upE (wyH es key) k a b c d = 0 ∧ ((k = 1 ∧ a = key) ↔ key ∈ es.map (·.1)) := by
  have he' := he
  rw [errB, if_neg (by omega)] at he'
  obtain ⟨_, h2, _⟩ := lsE_ok [] es he'
  obtain ⟨u1, u2⟩ := up_way 256 0 es key (by omega) hk h2 (fun e _ j hj => by omega)
  have hH : wyH es key = sds 256 0 es key := by rw [wyH, if_pos he]
  have hN : wyN es key = endN (rst 256 0 es key) := by rw [wyN, if_pos he]
  have hle : (sds 256 0 es key).length ≤ 256 := sds_length _ _ _ _
  have hmem : ∀ e, e ∈ es → e.1 = key → e ∈ rst 256 0 es key := fun e h1 h2 => rst_mem 256 0 es key e (by omega) h1 h2
  have hsub : ∀ e, e ∈ rst 256 0 es key → e ∈ es := fun e h => rst_sub 256 0 es key e h
  rw [hH, hN]
  match hr : rst 256 0 es key, u1 with
  | [], _ =>
    rw [hr] at hmem u2
    rw [rt_nil] at u2
    have ok : okN 0 z32 z32 z32 z32 = true := by simp [okN]
    refine ⟨0, z32, z32, z32, z32, rfl, nd_zero, ?_, ?_, ?_⟩
    · rw [upH, if_neg (by omega), if_pos ⟨ok, by omega⟩, dgN, if_pos ok, txN, if_pos ok, if_neg (by omega), if_neg (by omega)]
      exact u2
    · rw [upE, if_neg (by omega), if_pos ⟨ok, by omega⟩]
    · constructor
      · intro h
        omega
      · intro h
        obtain ⟨e, h1, h2⟩ := List.mem_map.1 h
        exact absurd (hmem e h1 h2) (by simp)
  | [e], _ =>
    rw [hr] at hmem hsub u2
    rw [rt_one] at u2
    have hke := hk e (hsub e (by simp))
    have ok : okN 1 e.1 (vaD e.2) z32 z32 = true := by simp [okN]
    refine ⟨1, e.1, vaD e.2, z32, z32, rfl, ⟨by omega, by omega, hke.1, dig_length _, rfl, rfl, hke.2, dig_bytes _, z32_bytes, z32_bytes⟩, ?_, ?_, ?_⟩
    · rw [upH, if_neg (by omega), if_pos ⟨ok, by omega⟩, dgN, if_pos ok, txN, if_pos ok, if_pos rfl]
      exact u2
    · rw [upE, if_neg (by omega), if_pos ⟨ok, by omega⟩]
    · constructor
      · rintro ⟨_, h⟩
        exact List.mem_map.2 ⟨e, hsub e (by simp), h⟩
      · intro h
        obtain ⟨x, h1, h2⟩ := List.mem_map.1 h
        have := hmem x h1 h2
        obtain rfl : x = e := by simpa using this
        exact ⟨rfl, h2⟩

/-- Two entries turned about. -/
theorem swap_perm {α : Type} (l : List α) (x y : Nat) (hx : x < l.length) (hy : y < l.length) : ((l.set x l[y]).set y l[x]).Perm l := by
  have h := Array.swap_perm (xs := l.toArray) (i := x) (j := y) (by simpa using hx) (by simpa using hy)
  have h2 := Array.perm_iff_toList_perm.1 h
  simpa [Array.swap] using h2

theorem flatP_length (its : List (Ent × Value)) (h : ∀ p ∈ its, p.1.1.length = 32) : (flatP its).length = its.length * 33 := by
  induction its with
  | nil => rfl
  | cons p r ih =>
    have h1 := ih (fun q hq => h q (by simp [hq]))
    have h2 := encP_length p.1.1 p.2 (h p (by simp))
    simp only [flatP, List.flatMap_cons, List.length_append, List.length_cons] at h1 ⊢
    omega
theorem flatP_set : ∀ (its : List (Ent × Value)), (∀ p ∈ its, p.1.1.length = 32) → ∀ (i : Nat), i < its.length → ∀ (p : Ent × Value), (flatP its).take (i * 33) ++ (encP p.1.1 p.2 ++ (flatP its).drop (i * 33 + 33)) = flatP (its.set i p)
  | [], _, i, hi, _ => by simp at hi
  | q :: r, hl, 0, _, p => by
    have h1 := encP_length q.1.1 q.2 (hl q (by simp))
    simp only [flatP, List.flatMap_cons, List.set_cons_zero, Nat.zero_mul, List.take_zero, List.nil_append, Nat.zero_add]
    rw [List.drop_append_of_le_length (by omega), List.drop_eq_nil_of_le (by omega), List.nil_append]
  | q :: r, hl, i + 1, hi, p => by
    have h1 := encP_length q.1.1 q.2 (hl q (by simp))
    have ih := flatP_set r (fun x hx => hl x (by simp [hx])) i (by simpa using hi) p
    simp only [flatP, List.flatMap_cons, List.set_cons_succ] at ih ⊢
    rw [← ih, show (i + 1) * 33 = (encP q.1.1 q.2).length + i * 33 by omega, List.take_length_add_append, show (encP q.1.1 q.2).length + i * 33 + 33 = (encP q.1.1 q.2).length + (i * 33 + 33) by omega, List.drop_length_add_append, List.append_assoc]

theorem own_set {w : World} {base g n c i : Nat} {its : List (Ent × Value)} (h : w.ownsRow base 62 33 (.slice (some ⟨g, 0, none⟩) n c) n (flatP its)) (hn : its.length = n) (hl : ∀ q ∈ its, q.1.1.length = 32) (hi : i < n) (p : Ent × Value) (hp : p.1.1.length = 32) :
    (w.setCells g (i * 33) (encP p.1.1 p.2)).ownsRow base 62 33 (.slice (some ⟨g, 0, none⟩) n c) n (flatP (its.set i p)) := by
  have hl2 : ∀ q ∈ its.set i p, q.1.1.length = 32 := fun q hq => by
    rcases List.mem_or_eq_of_mem_set hq with hq | rfl
    · exact hl q hq
    · exact hp
  have e33 := encP_length p.1.1 p.2 hp
  rcases h.2 with ⟨e, e2⟩ | ⟨g', cap, cur, e, hb, hg, hc, hm, hs, ht⟩
  · omega
  · injection e with e1 e2 e3
    injection e1 with e1
    injection e1 with e1
    subst e1
    subst e3
    have hfit : i * 33 + (encP p.1.1 p.2).length ≤ cur.size := by rw [e33, hs]; omega
    have hB := Blk.cells (encP p.1.1 p.2) (i * 33) (show Blk w g 62 cur from hg) hfit
    refine ⟨by rw [flatP_length _ hl2, List.length_set, hn], .inr ⟨g, c, _, rfl, hb, hB, hc, hm, ?_, ?_⟩⟩
    · simp only [List.size_toArray, List.length_append, List.length_take, List.length_drop, Array.length_toList]
      omega
    · rw [← flatP_set its hl i (by omega) p, ← ht, e33]
      have hcl : cur.toList.length = c * 33 := by rw [Array.length_toList]; exact hs
      rw [List.take_take, List.drop_take, Nat.min_eq_left (by omega)]
      dsimp only
      rw [List.take_append, List.take_append, List.length_take, Nat.min_eq_left (by omega), List.take_take, Nat.min_eq_right (by omega), e33, List.take_of_length_le (l := encP p.1.1 p.2) (by omega)]
      congr 3

theorem own_range {w : World} {base g n c i : Nat} {its : List (Ent × Value)} (h : w.ownsRow base 62 33 (.slice (some ⟨g, 0, none⟩) n c) n (flatP its)) (hn : its.length = n) (hl : ∀ q ∈ its, q.1.1.length = 32) (hi : i < n) : w.rangeAt g (i * 33) (encP (its.getD i (e00, undef)).1.1 (its.getD i (e00, undef)).2) ∧ w.there g (i * 33) 33 := by
  rcases h.2 with ⟨e, e2⟩ | ⟨g', cap, cur, e, hb, hg, hc, hm, hs, ht⟩
  · omega
  · injection e with e1 e2 e3
    injection e1 with e1
    injection e1 with e1
    subst e1
    subst e3
    constructor
    · intro j u hu
      have e2 : its.getD i (e00, undef) = its[i] := by simp [List.getD, show i < its.length by omega]
      rw [e2] at hu
      have h1 := flatP_at its hl i (by omega) j u hu
      rw [← ht] at h1
      have h2 : (cur.toList)[i * 33 + j]? = some u := by
        rw [List.getElem?_take] at h1
        split at h1
        · exact h1
        · cases h1
      rw [cell_of_row w g _ cur _ _ hg]
      simpa using h2
    · exact Blk.there (show Blk w g 62 cur from hg) (i * 33) 33 (by rw [hs]; omega)

/-- Whether a key is among the first entries. -/
def thr (es : List Ent) (key : List Int) (k : Nat) : Bool := decide (key ∈ (es.take k).map (·.1))
theorem thr_step (es : List Ent) (key : List Int) (k : Nat) (hk : k < es.length) : thr es key (k + 1) = (thr es key k || decide ((es.getD k e00).1 = key)) := by
  unfold thr
  rw [keys_take es k hk, ← Bool.decide_or]
  congr 1
  simp only [List.mem_append, List.mem_singleton, eq_iff_iff]
  exact or_congr Iff.rfl eq_comm

/-- Own entries behind a store elsewhere. -/
theorem ownP_kept {w w' : World} {base n : Nat} {v : Value} {xs : List Value} {row : Option Nat} (h : w.ownsRow base 62 33 v n xs) (hg : w.grownBy w' row) (hne : v.ownBlock = none ∨ v.ownBlock ≠ row) : w'.ownsRow base 62 33 v n xs := h.kept hg hne

end Go.Proofs.YtdpaanidangnlaaGreatDoor

/- node.part, its two slices told of any world that holds the leaves;  -/
namespace Go.Proofs.YtdpaanidangnlaaGreatDoor
set_option maxRecDepth 20000
open Go.RowKit

def PartPost (g off d : Nat) (ls : List Lf) (w : World) (e : Ending) (w' : World) : Prop :=
  ∃ a0 m0 c0 a1 m1 c1, e = .returned (.tuple #[.slice a0 m0 c0, .slice a1 m1 c1]) ∧ (∀ wx : World, (∀ i, i < ls.length → wx.rangeAt g (off + i * 129) (encLf ls[i]!)) → LvAt wx (.slice a0 m0 c0) (sdL ls d 0) ∧ LvAt wx (.slice a1 m1 c1) (sdL ls d 1)) ∧ Below w.heap.size w w'

set_option maxHeartbeats 4000000 in
theorem part_in (g off cap d : Nat) (ls : List Lf) (w : World) (hd : d < 256) (hn : ls.length ≤ 4096) (hcap : ls.length ≤ cap) (hr : Rise ls) (hs : Same ls d) (hv : ∀ i, i < ls.length → w.rangeAt g (off + i * 129) (encLf ls[i]!)) :
    Calls Tryz.prog 49 #[.slice (some ⟨g, off, none⟩) ls.length cap, .int .i64 d] w (PartPost g off d ls w) := by
  obtain ⟨c, hc⟩ : ∃ c, c = ls.countP fun x => !(kb x.key d == 1) := ⟨_, rfl⟩
  have hcn : c ≤ ls.length := by rw [hc]; exact List.countP_le_length
  obtain ⟨p0, p1⟩ := part_at ls d hd hr hs
  rw [← hc] at p0 p1
  have eg : ∀ args w, (callFunc 108 args).run Tryz.prog w = .ok (.enter 108 args) w := enters_of Tryz.func108 (by kernel_rfl) rfl
  have HSE : Hid (∀ w' g1 g2, Below w.heap.size w w' → w'.cell? ⟨g1, 0, none⟩ = some (.slice (some ⟨g, off, none⟩) ls.length cap) → w'.cell? ⟨g2, 0, none⟩ = some (.int .i64 d) →
      Calls Tryz.prog 107 #[.int .i64 ls.length, .func (.func 108) #[] #[.pointer (some ⟨g1, 0, none⟩), .pointer (some ⟨g2, 0, none⟩)]] w' fun e w'' => e = .returned (.int .i64 c) ∧ Grew w' w'') := by
    intro w' g1 g2 hb h1 h2
    have h := Any.sort_Search searchL 108 #[.pointer (some ⟨g1, 0, none⟩), .pointer (some ⟨g2, 0, none⟩)] ls.length (fun i => kb ls[i]!.key d == 1) w' eg (by omega) (fun m os i hi => by
      have q : Grew w' (Go.Sort.grow (w'.drewN m) os) := ⟨m, os, rfl⟩
      have := closure_bit g off cap ls.length i d g1 g2 ls[i]! _ hi hd ((q.below.cell (block_lt_of_cell h1)).trans h1) ((q.below.cell (block_lt_of_cell h2)).trans h2) (range_grow (hv i hi) (grow_trans hb q.below))
      exact this.mono fun e w'' ⟨e1, e2⟩ => ⟨e1, e2⟩) (part_mono ls d hd hr hs)
    rw [countP_rng (fun x => !(kb x.key d == 1)) ls, ← hc] at h
    exact h
  have HV : Hid (∀ w', Below w.heap.size w w' → PartPost g off d ls w (.returned (.tuple #[.slice (some ⟨g, off, none⟩) c cap, .slice (if cap = c then some ⟨g, off, none⟩ else some ⟨g, off + c * 129, none⟩) (ls.length - c) (cap - c)])) w') := by
    intro w' hb
    refine ⟨_, _, _, _, _, _, rfl, fun wx hx => ?_, hb⟩
    have := LvAt.cut hx hcap c hcn
    rwa [p0, p1] at this
  obtain ⟨n, hnn⟩ : ∃ n, n = ls.length := ⟨_, rfl⟩
  rw [← hnn] at HSE HV hcn hcap hn ⊢
  have i1 : (c : Int) ≤ (n : Int) := by omega
  have i2 : (0 : Int) ≤ (c : Int) := by omega
  have i3 : (n : Int) ≤ (cap : Int) := by omega
  have i4 : (c : Int) ≤ (cap : Int) := by omega
  clear hr hs hv hc p0 p1 eg hnn
  go_enter Tryz.func49, Tryz.ntmps49
  go_wp2_with (go_at_call 107; refine (HSE.out _ _ _ (grow_trans (grow_alloc _ _) (grow_alloc _ _)) (by simp) (by simp)).mono ?_; rintro e x1 ⟨rfl, a1⟩)
  have hx : Below w.heap.size w x1 := grow_trans (grow_trans (grow_alloc _ _) (grow_alloc _ _)) a1.below
  have HS : Hid (∀ w', Below x1.heap.size x1 w' → w'.cell? ⟨w.heap.size, 0, none⟩ = some (.slice (some ⟨g, off, none⟩) n cap)) := by
    intro w' hw'
    have q0 : ((w.alloc (.cells #[.slice (some ⟨g, off, none⟩) n cap] 97)).alloc (.cells #[.int .i64 d] 3)).cell? ⟨w.heap.size, 0, none⟩ = some (.slice (some ⟨g, off, none⟩) n cap) := by simp
    have q1 := (a1.below.cell (block_lt_of_cell q0)).trans q0
    exact (hw'.cell (block_lt_of_cell q1)).trans q1
  have d0 : Below x1.heap.size x1 x1.drew := (Below.refl _ _).drew
  refine wp_region_held_drew (S := fun w' => w'.cell? ⟨w.heap.size, 0, none⟩ = some (.slice (some ⟨g, off, none⟩) n cap)) (by kernel_rfl) (HS.out _ d0) (fun hHeld => ?_)
  refine wpAnyH_take (i := 0) (v := .slice (some ⟨g, off, none⟩) n cap) rfl (by kernel_rfl) (by kernel_rfl) (by kernel_rfl) (fun _ _ _ h => h) (Or.inl ⟨by rfl, fun w hS => by (have s1 := hS; go_simp)⟩) hHeld ?_
  simp only [Act.put, List.getElem_toArray, List.getElem_cons_zero, List.setIfInBounds_toArray, List.set_cons_zero, List.set_cons_succ]
  refine wpAnyH_take (i := 1) (v := .int .i64 c) rfl (by kernel_rfl) (by kernel_rfl) (by kernel_rfl) (fun _ _ _ h => h) (Or.inl ⟨by rfl, fun w hS => by go_simp⟩) hHeld ?_
  simp only [Act.put, List.getElem_toArray, List.getElem_cons_zero, List.getElem_cons_succ, List.setIfInBounds_toArray, List.set_cons_zero, List.set_cons_succ]
  refine wpAnyH_take (i := 2) (v := .slice (some ⟨g, off, none⟩) c cap) rfl (by kernel_rfl) (by kernel_rfl) (by kernel_rfl) (fun _ _ _ h => h) (Or.inl ⟨by rfl, fun w hS => by go_simp⟩) hHeld ?_
  simp only [Act.put, List.getElem_toArray, List.getElem_cons_zero, List.getElem_cons_succ, List.setIfInBounds_toArray, List.set_cons_zero, List.set_cons_succ]
  refine wpAnyH_take (i := 3) (v := .slice (some ⟨g, off, none⟩) n cap) rfl (by kernel_rfl) (by kernel_rfl) (by kernel_rfl) (fun _ _ _ h => h) (Or.inl ⟨by rfl, fun w hS => by (have s1 := hS; go_simp)⟩) hHeld ?_
  simp only [Act.put, List.getElem_toArray, List.getElem_cons_zero, List.getElem_cons_succ, List.setIfInBounds_toArray, List.set_cons_zero, List.set_cons_succ]
  refine wpAnyH_take (i := 4) (v := .int .i64 c) rfl (by kernel_rfl) (by kernel_rfl) (by kernel_rfl) (fun _ _ _ h => h) (Or.inl ⟨by rfl, fun w hS => by go_simp⟩) hHeld ?_
  simp only [Act.put, List.getElem_toArray, List.getElem_cons_zero, List.getElem_cons_succ, List.setIfInBounds_toArray, List.set_cons_zero, List.set_cons_succ]
  refine wpAnyH_take (i := 5) (v := .slice (if cap = c then some ⟨g, off, none⟩ else some ⟨g, off + c * 129, none⟩) (n - c) (cap - c)) rfl (by kernel_rfl) (by kernel_rfl) (by kernel_rfl) (fun _ _ _ h => h) (Or.inl ⟨by rfl, fun w hS => by (go_simp; skip)⟩) hHeld ?_
  simp only [Act.put, List.getElem_toArray, List.getElem_cons_zero, List.getElem_cons_succ, List.setIfInBounds_toArray, List.set_cons_zero, List.set_cons_succ]
  refine wpAnyH_take (i := 6) (v := .slice (some ⟨g, off, none⟩) c cap) rfl (by kernel_rfl) (by kernel_rfl) (by kernel_rfl) (fun _ _ _ h => h) (Or.inl ⟨by rfl, fun w hS => by go_simp⟩) hHeld ?_
  simp only [Act.put, List.getElem_toArray, List.getElem_cons_zero, List.getElem_cons_succ, List.setIfInBounds_toArray, List.set_cons_zero, List.set_cons_succ]
  refine wpAnyH_take (i := 7) (v := .slice (if cap = c then some ⟨g, off, none⟩ else some ⟨g, off + c * 129, none⟩) (n - c) (cap - c)) rfl (by kernel_rfl) (by kernel_rfl) (by kernel_rfl) (fun _ _ _ h => h) (Or.inl ⟨by rfl, fun w hS => by go_simp⟩) hHeld ?_
  simp only [Act.put, List.getElem_toArray, List.getElem_cons_zero, List.getElem_cons_succ, List.setIfInBounds_toArray, List.set_cons_zero, List.set_cons_succ]
  refine wpAnyH_done (by kernel_rfl) ?_ _
  generalize (if cap = c then (some ⟨g, off, none⟩ : Option Addr) else some ⟨g, off + c * 129, none⟩) = A1 at HV ⊢
  go_wp2_with fail
  go_ret2
  exact HV.out _ (grow_trans hx d0)

end Go.Proofs.YtdpaanidangnlaaGreatDoor

/- node.Way, as a contract. -/
namespace Go.Proofs.YtdpaanidangnlaaGreatDoor
set_option maxRecDepth 20000
open Go.RowKit

set_option maxHeartbeats 4000000 in
theorem way_bad (v : Value) (V : Nat → Value) (es : List Ent) (key : List Int) (w : World) (hv : PrAt w v V es) (hn : es.length ≤ 140737488355328) (hE : errB es ≠ 0) :
    Calls Tryz.prog 14 #[v, .agg (B key)] w (WayPost es key w) := by
  have HLv : Hid (∀ w', Below w.heap.size w w' → Calls Tryz.prog 48 #[v] w' fun e w'' => e = .returned (.tuple #[.slice none 0 0, .int .i64 (errB es)]) ∧ Below w'.heap.size w' w'') := fun w' hb => leavesOf_bad v V es w' (hv.grow hb) hn hE
  have HPost : Hid (∀ w', Below w.heap.size w w' → WayPost es key w (.returned (.tuple #[.agg (encR (.slice none 0 0) (nd 0 z32 z32 z32 z32)).toArray, .int .i64 (errB es)])) w') := fun w' hb => by
    refine ⟨none, 0, ?_, ?_, hb⟩
    · rw [wyH, wyN, if_neg hE, if_neg hE]
      rfl
    · rw [wyH, if_neg hE]
      exact World.ownsRow_nil _ _ _ _
  obtain ⟨a, cap, rfl, _, _, _⟩ := hv
  obtain ⟨E, hEE⟩ : ∃ E, E = errB es := ⟨_, rfl⟩
  rw [← hEE] at HLv hE HPost
  have h1 : (E != 0) = true := by simp [hE]
  have h2 : (E == 0) = false := by simp [hE]
  obtain ⟨N, hN⟩ : ∃ N, N = nd 0 z32 z32 z32 z32 := ⟨_, rfl⟩
  have HB : Hid (Tryz.prog.built 50 [] = some (encR (.slice none 0 0) N).toArray) := by rw [hN]; exact built_proof0
  have HSz : Hid ((Tryz.prog.info? 50).map (·.size) = some (encR (.slice none 0 0) N).toArray.size ∧ (encR (.slice none 0 0) (List.replicate 129 0)).toArray.size = (encR (.slice none 0 0) N).toArray.size) := ⟨encR_sz _ N (by rw [hN]; rfl), by rw [hN]; rfl⟩
  rw [← hN] at HPost
  obtain ⟨fp, hup⟩ := u_proof
  have HUP := hidden hup
  clear hEE hE hN hup
  go_enter Tryz.func14, Tryz.ntmps14
  go_wp2_with (first
    | ((with_reducible refine at_bxd 3 ?_); refine wpList_bx _ rfl _ _ rfl _ rfl ?_; intro w1 g3 hg3 hl3 B3 b1)
    | ((with_reducible refine at_ald 4 ?_); refine wpList_al _ rfl _ rfl _ zero_proof ?_; intro w2 g4 hg4 hl4 B4 b2; have c2 := grow_trans b1 b2)
    | (go_at_call 48; refine (HLv.out _ c2).mono ?_; rintro e w3 ⟨rfl, b3⟩; have D4 := B4.grow b3; have c3 := grow_trans c2 b3)
    | ((with_reducible refine at_bd ?_); refine wpList_bld _ rfl _ _ rfl _ (by rw [List.map_toArray]; exact HB.out) ?_)
    | ((with_reducible refine at_st 4 ?_); refine wpList_sto _ rfl _ _ _ rfl g4 _ (encR (.slice none 0 0) N).toArray rfl rfl D4 HSz.out.1 HSz.out.2 (encR_one _ _ _ _) ?_; intro w4 B5 r4))
  exact bodyPost_ret (v := .tuple #[.agg (encR (.slice none 0 0) N).toArray, .int .i64 E]) (results_agg_tmp rfl _ _ g4 _ _ rfl rfl B5 HUP.out HSz.out.1) rfl (HPost.out _ (below_row c3 r4 (Nat.le_trans b1.size hg4)))

set_option maxRecDepth 100000 in
set_option maxHeartbeats 8000000 in
theorem way_good (v : Value) (V : Nat → Value) (es : List Ent) (key : List Int) (w : World) (hv : PrAt w v V es) (hn : es.length ≤ 4096) (hE : errB es = 0) (hkey : Key key) (hL : Laid w) :
    Calls Tryz.prog 14 #[v, .agg (B key)] w (WayPost es key w) := by
  have hkeys := hv.keys
  have HL := hidden hL
  have HKEY := hidden hkey
  have HKZ : Hid ((Tryz.prog.info? 31).map (·.size) = some (B key).size) := by show _ = _; rw [B_size, hkey.1]; exact sz_path
  have HLv : Hid (∀ w', Below w.heap.size w w' → Calls Tryz.prog 48 #[v] w' (LvPost es w')) := fun w' hb => leavesOf_ok v V es w' (hv.grow hb) hn (hL.grow hb) hE
  have HPost : Hid (∀ w' sa sc n N hs, hs = sds 256 0 es key → N = endN (rst 256 0 es key) → hs.length = n → w'.ownsRow w.heap.size 43 32 (.slice sa n sc) n (flatH hs) → Below w.heap.size w w' → WayPost es key w (.returned (.tuple #[.agg (encR (.slice sa n sc) N).toArray, .int .i64 0])) w') := by
    intro w' sa sc n N hs e1 e2 e3 ho hb
    have f1 : wyH es key = hs := by rw [wyH, if_pos hE, e1]
    have f2 : wyN es key = N := by rw [wyN, if_pos hE, e2]
    refine ⟨sa, sc, ?_, ?_, hb⟩
    · rw [f1, f2, hE, e3]
    · rw [f1, e3]
      exact ho
  have HST := hidden (WaySt.start (es := es) key hkeys)
  obtain ⟨a, cap, rfl, _, _, _⟩ := hv
  obtain ⟨fp, hup⟩ := u_proof
  have HUP := hidden hup
  obtain ⟨fn, hun⟩ := u_node
  have HUN := hidden hun
  obtain ⟨Z, hZ⟩ : ∃ Z : List Int, Z = List.replicate 129 0 := ⟨_, rfl⟩
  have HZ := hidden hZ
  have HZP : Hid (∀ w, (zeroValue 50).run Tryz.prog w = .ok (.agg (encR (.slice none 0 0) Z).toArray) w) := by rw [hZ]; exact zero_proof
  have HSz : Hid (∀ s N, N.length = 129 → (Tryz.prog.info? 50).map (·.size) = some (encR s N).toArray.size ∧ (encR (.slice none 0 0) Z).toArray.size = (encR s N).toArray.size) := fun s N hN => ⟨encR_sz _ N hN, by simp [encR, hN, hZ]⟩
  have HZL : Hid (Z.length = 129) := by rw [hZ]; rfl
  clear hE hup hkey hkeys hL hun hZ
  go_enter Tryz.func14, Tryz.ntmps14
  go_wp2_with (first
    | ((with_reducible refine at_bxd 3 ?_); refine wpList_bx _ rfl _ _ rfl _ rfl ?_; intro w1 g3 hg3 hl3 B3 b1)
    | ((with_reducible refine at_ald 4 ?_); refine wpList_al _ rfl _ rfl _ HZP.out ?_; intro w2 g4 hg4 hl4 B4 b2; have c2 := grow_trans b1 b2; have D3 := B3.grow b2)
    | (go_at_call 48; refine (HLv.out _ c2).mono ?_; rintro e w3 ⟨x, ls0, rfl, p1, p2, p3, b3⟩; have P1 := hidden p1; obtain ⟨xa, xc, rfl, _, _⟩ := p1; have P2 := hidden p2; have P3 := hidden p3; clear p2 p3; have D4 := B4.grow b3; have E3 := D3.grow b3; have c3 := grow_trans c2 b3; obtain ⟨m0, hm0⟩ : ∃ m0, m0 = ls0.length := ⟨_, rfl⟩; rw [← hm0]; rw [← hm0] at P1; have HM0 := hidden hm0; clear hm0)
    | ((with_reducible refine at_ald 8 ?_); refine wpList_al _ rfl _ rfl _ HZP.out ?_; intro w4 g8 hg8 hl8 B8 b4))
  have HB8 := hidden B8
  have HB4 := hidden b4
  have HE3 := hidden E3
  have HD4 := hidden D4
  have HG8 := hidden hg8
  have HC3 := hidden c3
  have HG4 : Hid (w.heap.size ≤ g4) := Nat.le_trans b1.size hg4
  clear B8 b4 E3 D4 c3 b3 D3 c2 b2 b1 B3 B4 hg3 hl3 hg4 hl4 hl8 hg8 w1 w2
  go_loopw [6, 9] (fun l i wr => ∃ (d m : Nat) (la : Option Addr) (lc : Nat) (ed : List Ent) (ls : List Lf) (hs : List (List Int)) (sa : Option Addr) (sc : Nat), d ≤ 256 ∧ m ≤ 4096 ∧ l = .slice la m lc ∧ i = .int .i64 d ∧ Hid (ls.length = m) ∧ Hid (LvAt w3 (.slice la m lc) ls) ∧ Hid (Rise ls ∧ Same ls d ∧ ls.Perm (ed.map mkLf)) ∧ Hid (WaySt es key d ed hs) ∧ Hid (wr.ownsRow w3.heap.size 43 32 (.slice sa d sc) d (flatH hs)) ∧ Hid (Blk wr g8 50 (encR (.slice sa d sc) Z).toArray) ∧ Hid (Below w3.heap.size w3 wr)) (fun _ i _ => 256 - (intOf i).toNat)
  case atStart => exact ⟨0, m0, xa, xc, es, ls0, [], none, 0, by omega, by rw [HM0.out, P2.out.length_eq, List.length_map]; exact hn, rfl, rfl, HM0.out.symm, P1, ⟨P3.out, fun _ _ _ _ j hj => by omega, P2.out⟩, HST, World.ownsRow_nil _ _ _ _, HB8, HB4⟩
  case round =>
    obtain ⟨d, m, la, lc, ed, ls, hs, sa, sc, hd, hm, rfl, rfl, hml, hlv, hls, hst, hown, hblk, hbw⟩ := hrel
    by_cases hgt : 1 < m
    · have hd256 : d < 256 := by
        by_cases q : d = 256
        · subst q
          have := hls.out.1.few hls.out.2.1
          have := hml.out
          omega
        · omega
      have z1 : (1 : Int) < (m : Int) := by omega
      have hedl : ed.length = m := by rw [← hml.out, hls.out.2.2.length_eq, List.length_map]
      have HPa : Hid (Calls Tryz.prog 49 #[.slice la m lc, .int .i64 d] wr fun e w' => ∃ a0 m0 c0 a1 m1 c1, e = .returned (.tuple #[.slice a0 m0 c0, .slice a1 m1 c1]) ∧ LvAt w3 (.slice a0 m0 c0) (sdL ls d 0) ∧ LvAt w3 (.slice a1 m1 c1) (sdL ls d 1) ∧ Below wr.heap.size wr w') := by
        obtain ⟨la', lc', e, hcap, hr⟩ := hlv.out
        have hlm := hml.out
        injection e with e1 e2 e3
        subst e1
        subst e3
        obtain ⟨g, off, rfl, hrr⟩ := hr (by omega)
        have h := part_in g off lc d ls wr hd256 (by omega) hcap hls.out.1 hls.out.2.1 (fun i hi => range_grow (hrr i hi) hbw.out)
        rw [hlm] at h
        refine h.mono ?_
        rintro e w' ⟨a0, m0, c0, a1, m1, c1, rfl, hx, hb⟩
        exact ⟨a0, m0, c0, a1, m1, c1, rfl, (hx w3 hrr).1, (hx w3 hrr).2, hb⟩
      have HRo : Hid (∀ c a1 m1 c1, LvAt w3 (.slice a1 m1 c1) (sdL ls d c) → ∀ w', Below w3.heap.size w3 w' → Calls Tryz.prog 50 #[.slice a1 m1 c1, .int .i64 ((d : Int) + 1)] w' fun e w'' => e = .returned (.agg (B (rt (255 - d) (d + 1) (sideOf ed d c)))) ∧ Below w'.heap.size w' w'') := by
        intro c a1 m1 c1 h1 w' hb
        have hp := sdL_perm hd256 hst.out.keys hls.out.2.2 c
        have h4 := rootAt_any (255 - d) (d + 1) (sdL ls d c) (.slice a1 m1 c1) w' (by omega) (Nat.le_trans (List.length_filter_le _ _) (by rw [hml.out]; exact hm)) (hls.out.1.side d c) (hls.out.2.1.side c) (h1.grow hb) ((HL.out.grow HC3.out).grow hb)
        rw [rtL_perm _ _ _ _ hp, rt_map _ _ (sideOf ed d c) (by omega) (fun e he => hst.out.keys e (List.mem_filter.1 he).1)] at h4
        simpa using h4
      have HNX : Hid (∀ c, Rise (sdL ls d c) ∧ Same (sdL ls d c) (d + 1) ∧ (sdL ls d c).Perm ((sideOf ed d c).map mkLf) ∧ (sdL ls d c).length ≤ 4096) := fun c => ⟨hls.out.1.side d c, hls.out.2.1.side c, sdL_perm hd256 hst.out.keys hls.out.2.2 c, Nat.le_trans (List.length_filter_le _ _) (by rw [hml.out]; exact hm)⟩
      have hstep := hst.out.step (by omega) hd256
      have HBit : Hid (∀ w', Calls Tryz.prog 40 #[.agg (B key), .int .i64 d] w' fun e w'' => e = .returned (.int .i64 (kb key d)) ∧ Below w'.heap.size w' w'') := fun w' => by
        have := bit_any key d w' HKEY.out
        rwa [kbi_in _ _ hd256] at this
      have hb2 := kb_two key d
      have HK3 := hidden (HE3.out.grow hbw.out)
      have hw : IntKind.i64.wrap ((d : Int) + 1) = (d : Int) + 1 := by rw [IntKind.wrap_i64]; omega
      obtain ⟨β, hβ⟩ : ∃ β, β = kb key d := ⟨_, rfl⟩
      rw [← hβ] at HBit hstep hb2
      have hbo := hbw.out
      have hoo := hown.out
      have hbb := hblk.out
      have HOO := hidden hoo
      have HBB := hidden hbb
      have HBO := hidden hbo
      clear hml hlv hls hst hown hblk hbw hedl hβ hbo hoo hbb
      rcases hb2 with hb2 | hb2
      · subst hb2
        have e10 : (1 : Int) - 0 = 1 := by omega
        rw [e10] at hstep
        obtain ⟨D, hD⟩ : ∃ D, D = rt (255 - d) (d + 1) (sideOf ed d 1) := ⟨_, rfl⟩
        have HDK : Hid (D.length = 32 ∧ Bytes D) := by rw [hD]; exact rt_len _ _ _
        have HRD := hidden (HRo.out 1)
        have HNM := hidden (HNX.out 0)
        rw [← hD] at HRD hstep
        have HSTEP := hidden hstep
        clear hstep hD HRo e10 HNX
        go_wp2_with (first
          | (go_at_call 49; refine HPa.out.mono ?_; rintro e x1 ⟨a0, m0, c0, a1, m1, c1, rfl, p0, p1, q1⟩; have HP0 := hidden p0; have HP1 := hidden p1; clear p0 p1; have HK4 := hidden (HK3.out.grow q1); have HR1 := hidden (HRD.out _ _ _ HP1.out))
          | ((with_reducible refine at_ldd 32 3 ?_); refine wpList_ld _ rfl _ _ rfl g3 _ rfl HK4.out _ _ Tryz.underlying31 HKZ.out ?_)
          | (go_at_call 40; refine (HBit.out _).mono ?_; rintro e x2 ⟨rfl, q2⟩))
        have d0 : Below wr.heap.size wr x2.drew := grow_trans q1 (grow_trans q2 (Below.refl _ _).drew)
        have HS : Hid (∀ w', Below wr.heap.size wr w' → Blk w' g8 50 (encR (.slice sa d sc) Z).toArray) := fun w' q => HBB.out.grow q
        refine wp_region_last (S := fun w' => Blk w' g8 50 (encR (.slice sa d sc) Z).toArray) 9 (by kernel_rfl) (HS.out _ d0) (fun hHeld => ?_)
        refine wpAnyL_take (i := 0) (v := .pointer (some ⟨g8, 0, none⟩)) rfl (by kernel_rfl) (by kernel_rfl) (by kernel_rfl) (by kernel_rfl) (by kernel_rfl) (fun _ _ _ h => h) (Or.inl ⟨by rfl, fun w hS => by go_simp⟩) hHeld ?_
        simp only [Act.put, List.getElem_toArray, List.getElem_cons_zero, List.setIfInBounds_toArray, List.set_cons_zero, List.set_cons_succ]
        refine wpAnyL_take (i := 1) (v := .slice sa d sc) rfl (by kernel_rfl) (by kernel_rfl) (by kernel_rfl) (by kernel_rfl) (by kernel_rfl) (fun _ _ _ h => h) (Or.inl ⟨by rfl, fun w hS => by (have s1 := proof_side hS; go_simp)⟩) hHeld ?_
        simp only [Act.put, List.getElem_toArray, List.getElem_cons_zero, List.getElem_cons_succ, List.setIfInBounds_toArray, List.set_cons_zero, List.set_cons_succ]
        refine wpAnyL_take (i := 2) (v := .slice a1 m1 c1) rfl (by kernel_rfl) (by kernel_rfl) (by kernel_rfl) (by kernel_rfl) (by kernel_rfl) (fun _ _ _ h => h) (Or.inl ⟨by rfl, fun w hS => by go_simp⟩) hHeld ?_
        simp only [Act.put, List.getElem_toArray, List.getElem_cons_zero, List.getElem_cons_succ, List.setIfInBounds_toArray, List.set_cons_zero, List.set_cons_succ]
        refine wpAnyL_take (i := 3) (v := .int .i64 d) rfl (by kernel_rfl) (by kernel_rfl) (by kernel_rfl) (by kernel_rfl) (by kernel_rfl) (fun _ _ _ h => h) (Or.inl ⟨by rfl, fun w hS => by go_simp⟩) hHeld ?_
        simp only [Act.put, List.getElem_toArray, List.getElem_cons_zero, List.getElem_cons_succ, List.setIfInBounds_toArray, List.set_cons_zero, List.set_cons_succ]
        refine wpAnyL_take (i := 4) (v := .int .i64 ((d : Int) + 1)) rfl (by kernel_rfl) (by kernel_rfl) (by kernel_rfl) (by kernel_rfl) (by kernel_rfl) (fun _ _ _ h => h) (Or.inl ⟨by rfl, fun w hS => by go_simp⟩) hHeld ?_
        simp only [Act.put, List.getElem_toArray, List.getElem_cons_zero, List.getElem_cons_succ, List.setIfInBounds_toArray, List.set_cons_zero, List.set_cons_succ]
        refine wpAnyL_one (i := 5) rfl (by kernel_rfl) (fun KQ hK => ?_)
        go_simp
        refine (HR1.out _ (grow_trans HBO.out (grow_trans q1 (grow_trans q2 (Below.refl _ _).drew)))).mono ?_
        rintro e x3 ⟨rfl, a3⟩
        have d3 := grow_trans d0 a3
        have o3 := ownsH_below HOO.out d3
        refine hK.out _ _ (HS.out _ d3) (fun hHeld => ?_)
        clear hK KQ
        refine wpAnyL_one (i := 6) rfl (by kernel_rfl) (fun KQ hK => ?_)
        have oA := o3.alloc (.cells (B D) 43)
        have dA := grow_trans d3 (grow_alloc x3 (.cells (B D) 43))
        refine step_bsh _ rfl _ rfl D rfl HDK.out.1 ?_
        refine hK.out _ _ (HS.out _ dA) (fun hHeld => ?_)
        clear hK KQ
        refine wpAnyL_one (i := 7) rfl (by kernel_rfl) (fun KQ hK => ?_)
        refine step_appH _ rfl _ _ rfl w3.heap.size _ d (flatH hs) oA rfl x3.heap.size D rfl (Blk.new _ _ _) HDK.out.1 (by omega) (Nat.le_trans (Nat.le_trans HBO.out.size d3.size) (by simp)) ?_
        intro v5 x5 ho5 hg5
        have nb := own_ne oA (HS.out _ dA)
        refine hK.out _ _ ((HS.out _ dA).keptO hg5 nb) (fun hHeld => ?_)
        clear hK KQ
        refine wpAnyL_take (i := 8) (v := .pointer (some ⟨g8, 0, none⟩)) rfl (by kernel_rfl) (by kernel_rfl) (by kernel_rfl) (by kernel_rfl) (by kernel_rfl) (fun _ _ _ h => h) (Or.inl ⟨by rfl, fun w hS => by go_simp⟩) hHeld ?_
        simp only [Act.put, List.getElem_toArray, List.getElem_cons_zero, List.getElem_cons_succ, List.setIfInBounds_toArray, List.set_cons_zero, List.set_cons_succ]
        have hB5 := hHeld
        have hcell := proof_side hB5
        have hfr := hB5.frozen 0
        obtain ⟨sa5, sc5, rfl⟩ := own_slice ho5
        refine wpAnyL_last rfl (by kernel_rfl) (by kernel_rfl) (fun KQ hK => ?_)
        go_simp
        
        refine hK.out _ _ ?_
        clear hK KQ
        have hB6 := blk_side hB5 (.slice sa5 (d + 1) sc5)
        have gr6 := grown_setCell x5 g8 0 (.slice sa5 (d + 1) sc5)
        have ho6 := ho5.kept gr6 (.inr (fun e => own_ne ho5 hB5 e.symm))
        have hb5 : Below w3.heap.size w3 x5 := below_ownH (grow_trans HBO.out dA) oA (Nat.le_refl _) hg5
        have hb6 := below_row hb5 gr6 HG8.out
        rw [← flatH_snoc] at ho6
        have HF6 := hidden (And.intro ho6 (And.intro hB6 hb6))
        generalize x5.setCell ⟨g8, 0, none⟩ (.slice sa5 (d + 1) sc5) = x6 at *
        clear hB5 hcell hfr ho5 hg5 nb hB6 gr6 ho6 hb5 hb6 o3 oA dA hHeld HS
        have hm0 : m0 = (sdL ls d 0).length := by
          obtain ⟨_, _, e, _⟩ := HP0.out
          injection e
        have HMM := hidden hm0
        clear hm0
        go_wp2_with fail
        exact ⟨⟨d + 1, m0, a0, c0, sideOf ed d 0, sdL ls d 0, hs ++ [D], sa5, sc5, by omega, by rw [HMM.out]; exact HNM.out.2.2.2, rfl, by go_num, HMM.out.symm, HP0, ⟨HNM.out.1, HNM.out.2.1, HNM.out.2.2.1⟩, HSTEP, HF6.out.1, HF6.out.2.1, HF6.out.2.2⟩, by simp [intOf]; omega⟩
      · subst hb2
        have e10 : (1 : Int) - 1 = 0 := by omega
        rw [e10] at hstep
        obtain ⟨D, hD⟩ : ∃ D, D = rt (255 - d) (d + 1) (sideOf ed d 0) := ⟨_, rfl⟩
        have HDK : Hid (D.length = 32 ∧ Bytes D) := by rw [hD]; exact rt_len _ _ _
        have HRD := hidden (HRo.out 0)
        have HNM := hidden (HNX.out 1)
        rw [← hD] at HRD hstep
        have HSTEP := hidden hstep
        clear hstep hD HRo e10 HNX
        go_wp2_with (first
          | (go_at_call 49; refine HPa.out.mono ?_; rintro e x1 ⟨a0, m0, c0, a1, m1, c1, rfl, p0, p1, q1⟩; have HP0 := hidden p0; have HP1 := hidden p1; clear p0 p1; have HK4 := hidden (HK3.out.grow q1); have HR1 := hidden (HRD.out _ _ _ HP0.out))
          | ((with_reducible refine at_ldd 32 3 ?_); refine wpList_ld _ rfl _ _ rfl g3 _ rfl HK4.out _ _ Tryz.underlying31 HKZ.out ?_)
          | (go_at_call 40; refine (HBit.out _).mono ?_; rintro e x2 ⟨rfl, q2⟩))
        have d0 : Below wr.heap.size wr x2.drew := grow_trans q1 (grow_trans q2 (Below.refl _ _).drew)
        have HS : Hid (∀ w', Below wr.heap.size wr w' → Blk w' g8 50 (encR (.slice sa d sc) Z).toArray) := fun w' q => HBB.out.grow q
        refine wp_region_last (S := fun w' => Blk w' g8 50 (encR (.slice sa d sc) Z).toArray) 9 (by kernel_rfl) (HS.out _ d0) (fun hHeld => ?_)
        refine wpAnyL_take (i := 0) (v := .pointer (some ⟨g8, 0, none⟩)) rfl (by kernel_rfl) (by kernel_rfl) (by kernel_rfl) (by kernel_rfl) (by kernel_rfl) (fun _ _ _ h => h) (Or.inl ⟨by rfl, fun w hS => by go_simp⟩) hHeld ?_
        simp only [Act.put, List.getElem_toArray, List.getElem_cons_zero, List.setIfInBounds_toArray, List.set_cons_zero, List.set_cons_succ]
        refine wpAnyL_take (i := 1) (v := .slice sa d sc) rfl (by kernel_rfl) (by kernel_rfl) (by kernel_rfl) (by kernel_rfl) (by kernel_rfl) (fun _ _ _ h => h) (Or.inl ⟨by rfl, fun w hS => by (have s1 := proof_side hS; go_simp)⟩) hHeld ?_
        simp only [Act.put, List.getElem_toArray, List.getElem_cons_zero, List.getElem_cons_succ, List.setIfInBounds_toArray, List.set_cons_zero, List.set_cons_succ]
        refine wpAnyL_take (i := 2) (v := .slice a0 m0 c0) rfl (by kernel_rfl) (by kernel_rfl) (by kernel_rfl) (by kernel_rfl) (by kernel_rfl) (fun _ _ _ h => h) (Or.inl ⟨by rfl, fun w hS => by go_simp⟩) hHeld ?_
        simp only [Act.put, List.getElem_toArray, List.getElem_cons_zero, List.getElem_cons_succ, List.setIfInBounds_toArray, List.set_cons_zero, List.set_cons_succ]
        refine wpAnyL_take (i := 3) (v := .int .i64 d) rfl (by kernel_rfl) (by kernel_rfl) (by kernel_rfl) (by kernel_rfl) (by kernel_rfl) (fun _ _ _ h => h) (Or.inl ⟨by rfl, fun w hS => by go_simp⟩) hHeld ?_
        simp only [Act.put, List.getElem_toArray, List.getElem_cons_zero, List.getElem_cons_succ, List.setIfInBounds_toArray, List.set_cons_zero, List.set_cons_succ]
        refine wpAnyL_take (i := 4) (v := .int .i64 ((d : Int) + 1)) rfl (by kernel_rfl) (by kernel_rfl) (by kernel_rfl) (by kernel_rfl) (by kernel_rfl) (fun _ _ _ h => h) (Or.inl ⟨by rfl, fun w hS => by go_simp⟩) hHeld ?_
        simp only [Act.put, List.getElem_toArray, List.getElem_cons_zero, List.getElem_cons_succ, List.setIfInBounds_toArray, List.set_cons_zero, List.set_cons_succ]
        refine wpAnyL_one (i := 5) rfl (by kernel_rfl) (fun KQ hK => ?_)
        go_simp
        refine (HR1.out _ (grow_trans HBO.out (grow_trans q1 (grow_trans q2 (Below.refl _ _).drew)))).mono ?_
        rintro e x3 ⟨rfl, a3⟩
        have d3 := grow_trans d0 a3
        have o3 := ownsH_below HOO.out d3
        refine hK.out _ _ (HS.out _ d3) (fun hHeld => ?_)
        clear hK KQ
        refine wpAnyL_one (i := 6) rfl (by kernel_rfl) (fun KQ hK => ?_)
        have oA := o3.alloc (.cells (B D) 43)
        have dA := grow_trans d3 (grow_alloc x3 (.cells (B D) 43))
        refine step_bsh _ rfl _ rfl D rfl HDK.out.1 ?_
        refine hK.out _ _ (HS.out _ dA) (fun hHeld => ?_)
        clear hK KQ
        refine wpAnyL_one (i := 7) rfl (by kernel_rfl) (fun KQ hK => ?_)
        refine step_appH _ rfl _ _ rfl w3.heap.size _ d (flatH hs) oA rfl x3.heap.size D rfl (Blk.new _ _ _) HDK.out.1 (by omega) (Nat.le_trans (Nat.le_trans HBO.out.size d3.size) (by simp)) ?_
        intro v5 x5 ho5 hg5
        have nb := own_ne oA (HS.out _ dA)
        refine hK.out _ _ ((HS.out _ dA).keptO hg5 nb) (fun hHeld => ?_)
        clear hK KQ
        refine wpAnyL_take (i := 8) (v := .pointer (some ⟨g8, 0, none⟩)) rfl (by kernel_rfl) (by kernel_rfl) (by kernel_rfl) (by kernel_rfl) (by kernel_rfl) (fun _ _ _ h => h) (Or.inl ⟨by rfl, fun w hS => by go_simp⟩) hHeld ?_
        simp only [Act.put, List.getElem_toArray, List.getElem_cons_zero, List.getElem_cons_succ, List.setIfInBounds_toArray, List.set_cons_zero, List.set_cons_succ]
        have hB5 := hHeld
        have hcell := proof_side hB5
        have hfr := hB5.frozen 0
        obtain ⟨sa5, sc5, rfl⟩ := own_slice ho5
        refine wpAnyL_last rfl (by kernel_rfl) (by kernel_rfl) (fun KQ hK => ?_)
        go_simp
        
        refine hK.out _ _ ?_
        clear hK KQ
        have hB6 := blk_side hB5 (.slice sa5 (d + 1) sc5)
        have gr6 := grown_setCell x5 g8 0 (.slice sa5 (d + 1) sc5)
        have ho6 := ho5.kept gr6 (.inr (fun e => own_ne ho5 hB5 e.symm))
        have hb5 : Below w3.heap.size w3 x5 := below_ownH (grow_trans HBO.out dA) oA (Nat.le_refl _) hg5
        have hb6 := below_row hb5 gr6 HG8.out
        rw [← flatH_snoc] at ho6
        have HF6 := hidden (And.intro ho6 (And.intro hB6 hb6))
        generalize x5.setCell ⟨g8, 0, none⟩ (.slice sa5 (d + 1) sc5) = x6 at *
        clear hB5 hcell hfr ho5 hg5 nb hB6 gr6 ho6 hb5 hb6 o3 oA dA hHeld HS
        have hm1 : m1 = (sdL ls d 1).length := by
          obtain ⟨_, _, e, _⟩ := HP1.out
          injection e
        have HMM := hidden hm1
        clear hm1
        go_wp2_with fail
        exact ⟨⟨d + 1, m1, a1, c1, sideOf ed d 1, sdL ls d 1, hs ++ [D], sa5, sc5, by omega, by rw [HMM.out]; exact HNM.out.2.2.2, rfl, by go_num, HMM.out.symm, HP1, ⟨HNM.out.1, HNM.out.2.1, HNM.out.2.2.1⟩, HSTEP, HF6.out.1, HF6.out.2.1, HF6.out.2.2⟩, by simp [intOf]; omega⟩
    · have hle : ed.length ≤ 1 := by
        have h1 := hls.out.2.2.length_eq
        rw [List.length_map] at h1
        have := hml.out
        omega
      obtain ⟨f1, f2⟩ := hst.out.done hle
      have z1 : ¬ (1 : Int) < (m : Int) := by omega
      have hb4 := HD4.out.grow hbw.out
      have HC := hidden (grow_trans HC3.out hbw.out)
      have HO := hidden (own_base hown.out HC3.out.size)
      have n48 : g4 ≠ g8 := Nat.ne_of_lt (Nat.lt_of_lt_of_le HD4.out.lt HG8.out)
      have HHS := hidden hst.out.len
      have F1 := hidden f1
      have F2 := hidden f2
      have HB4' := hidden hb4
      have HBK := hidden hblk.out
      have HOW := hidden hown.out
      have HBW := hidden hbw.out
      clear f1 f2 hb4
      by_cases hm1 : m = 1
      · subst hm1
        obtain ⟨x, hx⟩ : ∃ x, ls = [x] := List.length_eq_one_iff.1 hml.out
        obtain ⟨e, he⟩ : ∃ e, ed = [e] := List.length_eq_one_iff.1 (by
          have h1 := hls.out.2.2.length_eq
          rw [List.length_map] at h1
          have := hml.out
          omega)
        have hxe : x = mkLf e := by
          have h1 := hls.out.2.2
          rw [hx, he] at h1
          simpa using List.singleton_perm_singleton.1 h1
        have hke := hst.out.keys e (by rw [he]; simp)
        obtain ⟨g, off, hla, hrr⟩ : ∃ g off, la = some ⟨g, off, none⟩ ∧ w3.rangeAt g off (encLf x) := by
          obtain ⟨la', lc', e1, _, hr⟩ := hlv.out
          injection e1 with e2 e3 e4
          subst e2
          obtain ⟨g, off, e5, hr⟩ := hr (by rw [hx]; simp)
          have := hr 0 (by rw [hx]; simp)
          rw [hx] at this
          exact ⟨g, off, e5, by simpa using this⟩
        subst hla
        obtain ⟨N, hN⟩ : ∃ N, N = x.ints := ⟨_, rfl⟩
        have HNE : Hid (N = endN (rst 256 0 es key)) := by
          show _ = _
          rw [F2.out, he, hN, hxe, Lf.ints, mkLf_key hke, mkLf_val hke]
          rfl
        have HNL : Hid (N.length = 129) := by rw [hN]; exact x.ints_length
        have HRR : Hid (wr.rangeAt g off (N.map (Value.int .u8))) := by rw [hN]; exact range_grow hrr hbw.out
        have HTH : Hid (wr.there g8 1 (B N).size) := HBK.out.there 1 _ (by rw [B_size, HNL.out]; simp [encR, HZL.out])
        have HIN : Hid ((Tryz.prog.info? 48).map (·.size) = some (N.map (Value.int .u8)).length) := by show _ = _; rw [List.length_map, HNL.out]; exact size_node
        have HIM : Hid ((Tryz.prog.info? 48).map (·.size) = some (B N).size) := by show _ = _; rw [B_size, HNL.out]; exact size_node
        have h8 := blk_end HBK.out N HZL.out HNL.out
        have gr8 := grown_setCells g8 (N.map (Value.int .u8)) 1 wr
        have HK8 := hidden (And.intro h8 (And.intro (HB4'.out.kept gr8 n48) (And.intro (HO.out.kept gr8 (.inr (fun e => own_ne HOW.out HBK.out e.symm))) (below_row HC.out gr8 (Nat.le_trans HC3.out.size HG8.out)))))
        have HBT : Hid ((B N).toList = N.map (Value.int .u8)) := B_toList N
        clear h8 gr8 hxe hN hx he hke hrr hls hst hml hlv hown hblk hbw hle hgt
        go_wp2_with (first
          | ((with_reducible refine at_ldd 53 52 ?_); refine wpList_load_mid rfl 48 _ rfl g off rfl (N.map (Value.int .u8)) _ HRR.out HUN.out rfl HIN.out ?_)
          | ((with_reducible refine at_st 54 ?_); refine wpList_stm _ rfl _ _ _ rfl g8 1 (B N) rfl rfl HTH.out HIM.out (B_one _) ?_; rw [HBT.out]; generalize wr.setCells g8 1 (N.map (Value.int .u8)) = x7 at *)
          | ((with_reducible refine at_ldd 55 8 ?_); refine wpList_lds _ rfl _ _ rfl g8 _ _ rfl HK8.out.1 HUP.out (HSz.out _ N HNL.out).1 ?_)
          | ((with_reducible refine at_st 4 ?_); refine wpList_sto _ rfl _ _ _ rfl g4 _ (encR (.slice sa d sc) N).toArray rfl rfl HK8.out.2.1 (HSz.out _ N HNL.out).1 (HSz.out _ N HNL.out).2 (encR_one _ _ _ _) ?_; intro x8 B9 r9))
        have ho9 := HK8.out.2.2.1.kept r9 (.inr (fun e => own_ne HK8.out.2.2.1 HK8.out.2.1 e.symm))
        exact bodyPost_ret (v := .tuple #[.agg (encR (.slice sa d sc) N).toArray, .int .i64 0]) (results_agg_tmp rfl _ _ g4 _ _ rfl rfl B9 HUP.out (HSz.out _ N HNL.out).1) rfl (HPost.out _ _ _ _ _ hs F1.out HNE.out HHS.out ho9 (below_row HK8.out.2.2.2 r9 HG4.out))
      · have hm0' : m = 0 := by omega
        subst hm0'
        have he : ed = [] := List.eq_nil_of_length_eq_zero (by
          have h1 := hls.out.2.2.length_eq
          rw [List.length_map] at h1
          have := hml.out
          omega)
        have HNE : Hid (Z = endN (rst 256 0 es key)) := by
          show _ = _
          rw [F2.out, he, HZ.out]
          rfl
        clear he hls hst hml hlv hown hblk hbw hle hgt hm1
        go_wp2_with (first
          | ((with_reducible refine at_ldd 55 8 ?_); refine wpList_lds _ rfl _ _ rfl g8 _ _ rfl HBK.out HUP.out (HSz.out _ Z HZL.out).1 ?_)
          | ((with_reducible refine at_st 4 ?_); refine wpList_sto _ rfl _ _ _ rfl g4 _ (encR (.slice sa d sc) Z).toArray rfl rfl HB4'.out (HSz.out _ Z HZL.out).1 (HSz.out _ Z HZL.out).2 (encR_one _ _ _ _) ?_; intro x8 B9 r9))
        have ho9 := HO.out.kept r9 (.inr (fun e => own_ne HO.out HB4'.out e.symm))
        exact bodyPost_ret (v := .tuple #[.agg (encR (.slice sa d sc) Z).toArray, .int .i64 0]) (results_agg_tmp rfl _ _ g4 _ _ rfl rfl B9 HUP.out (HSz.out _ Z HZL.out).1) rfl (HPost.out _ _ _ _ _ hs F1.out HNE.out HHS.out ho9 (below_row HC.out r9 HG4.out))

theorem way_any (v : Value) (V : Nat → Value) (es : List Ent) (key : List Int) (w : World) (hv : PrAt w v V es) (hn : es.length ≤ 140737488355328) (hkey : Key key) (hL : Laid w) :
    Calls Tryz.prog 14 #[v, .agg (B key)] w (WayPost es key w) := by
  by_cases hE : errB es = 0
  · have hl : es.length ≤ 4096 := by
      by_cases h : 4096 < es.length
      · rw [errB, if_pos h] at hE
        omega
      · omega
    exact way_good v V es key w hv hl hE hkey hL
  · exact way_bad v V es key w hv hn hE

end Go.Proofs.YtdpaanidangnlaaGreatDoor
