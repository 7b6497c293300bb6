/- rootcellarkit.KeptPairs and the law's few, as contracts. -/
import Derived.Test.YtpihigcnoifcfaaGreatDoorVw36
import Derived.Test.YtpihigcnoifcfaaGreatDoorVw33
import Derived.Test.YtpihigcnoifcfaaGreatDoorVw20
import Derived.Test.YtpihigcnoifcfaaGreatDoorVw10
import Derived.Test.YtpihigcnoifcfaaGreatDoorVw12
namespace Go.Proofs.YtpihigcnoifcfaaGreatDoor
set_option maxRecDepth 20000
open Go.RowKit

/-- cap of a slice of entries. -/
theorem wpList_capP {ops : Array Oper} {rest : List Oper} {o : Oper} {a : Act} {Q : Exit → Act → World → Prop} (w : World) (hgd : o.guard = none) (x : Operand)
    (hop : o.op = .call { callee := .builtin .cap, args := #[x], argTypes := #[22] }) (b : Option Addr) (n c : Nat) (hx : a.eval x = .slice b n c)
    (h : wpList Tryz.prog ops Q rest (a.put o.dst (.int .i64 c)) w) : wpList Tryz.prog ops Q (o :: rest) a w := by
  refine wpList_plain hgd fun K hK => ?_
  have hr := run_cap_slice (P := Tryz.prog) w 22 o.type b n c (by kernel_rfl)
  unfold Oper.wp execOp
  simp only [hop, resolve, invoke, builtin, Sem.run_bind, Sem.run_pure, Result.andThen_ok, List.map_toArray, List.map_cons, List.map_nil, hx, hr]
  exact hK _ _ h

end Go.Proofs.YtpihigcnoifcfaaGreatDoor

/- NodeWays' walk: the law returns true at all entries, keys and ways, and nothing that was in memory turns. -/
namespace Go.Proofs.YtpihigcnoifcfaaGreatDoor
set_option maxRecDepth 20000
open Go.RowKit

theorem own_apart {u v : Value} {b0 s m : Nat} {w : World} {ys : List Value} (hu : ∀ k, u.ownBlock = some k → b0 ≤ k ∧ k < s) (hv : w.ownsRow s 25 32 v m ys) : v.ownBlock = none ∨ v.ownBlock ≠ u.ownBlock := by
  cases h : v.ownBlock with
  | none => exact .inl rfl
  | some k =>
    refine .inr fun e => ?_
    have h1 := (hu k e.symm).2
    have h2 := (hv.lt k h).1
    omega
theorem own_kp {w : World} {base n : Nat} {v : Value} {xs : List Value} (h : w.ownsRow base 25 32 v n xs) : Kp w (fun w' => w'.ownsRow base 25 32 v n xs) := fun _ q => ownsH_below h q

theorem wyH_dgs (es : List Ent) (key : List Int) : Dgs (wyH es key) := by
  unfold wyH
  split
  · exact sds_dgs _ _ _ _
  · exact fun x hx => by simp at hx
theorem nd_zero : Nd 0 z32 z32 z32 z32 := ⟨by omega, by omega, rfl, rfl, rfl, rfl, z32_bytes, z32_bytes, z32_bytes, z32_bytes⟩
theorem endN_nd (l : List Ent) (h : ∀ e ∈ l, Key e.1) : ∃ k a b c d, endN l = nd k a b c d ∧ Nd k a b c d ∧ okN k a b c d = true ∧ k ≠ 2 := by
  match l, h with
  | [], _ => exact ⟨0, z32, z32, z32, z32, rfl, nd_zero, by simp [okN], by omega⟩
  | [e], h =>
    have hk := h e (by simp)
    exact ⟨1, e.1, vaD e.2, z32, z32, rfl, ⟨by omega, by omega, hk.1, dig_length _, rfl, rfl, hk.2, dig_bytes _, z32_bytes, z32_bytes⟩, by simp [okN], by omega⟩
  | _ :: _ :: _, _ => exact ⟨0, z32, z32, z32, z32, rfl, nd_zero, by simp [okN], by omega⟩
theorem wyN_nd (es : List Ent) (key : List Int) (h : ∀ e ∈ es, Key e.1) : ∃ k a b c d, wyN es key = nd k a b c d ∧ Nd k a b c d := by
  unfold wyN
  split
  · obtain ⟨k, a, b, c, d, h1, h2, _⟩ := endN_nd (rst 256 0 es key) (fun e he => h e (rst_sub 256 0 es key e he))
    exact ⟨k, a, b, c, d, h1, h2⟩
  · exact ⟨0, z32, z32, z32, z32, rfl, nd_zero⟩
theorem upH_len (key : List Int) (hs : List (List Int)) (k : Int) (a b c d : List Int) : (upH key hs k a b c d).length = 32 := by
  unfold upH
  split
  · rfl
  · split
    · exact (upD_ok key hs 0 _ (dgN_ok k a b c d).1 (dgN_ok k a b c d).2).1
    · rfl

def one32 : List Int := 1 :: List.replicate 31 0
theorem built_one : Tryz.prog.built 25 [(0, .int .u8 1)] = some (B one32) := by kernel_rfl

end Go.Proofs.YtpihigcnoifcfaaGreatDoor

/- Entries turned about in memory. -/
namespace Go.Proofs.YtpihigcnoifcfaaGreatDoor
set_option maxRecDepth 20000
open Go.RowKit

/-- Two entries turned about. -/
theorem swap_perm {α : Type} (l : List α) (x y : Nat) (hx : x < l.length) (hy : y < l.length) : ((l.set x l[y]).set y l[x]).Perm l := by
  have h := Array.swap_perm (xs := l.toArray) (i := x) (j := y) (by simpa using hx) (by simpa using hy)
  have h2 := Array.perm_iff_toList_perm.1 h
  simpa [Array.swap] using h2

theorem flatP_length (its : List (Ent × Value)) (h : ∀ p ∈ its, p.1.1.length = 32) : (flatP its).length = its.length * 33 := by
  induction its with
  | nil => rfl
  | cons p r ih =>
    have h1 := ih (fun q hq => h q (by simp [hq]))
    have h2 := encP_length p.1.1 p.2 (h p (by simp))
    simp only [flatP, List.flatMap_cons, List.length_append, List.length_cons] at h1 ⊢
    omega
theorem flatP_set : ∀ (its : List (Ent × Value)), (∀ p ∈ its, p.1.1.length = 32) → ∀ (i : Nat), i < its.length → ∀ (p : Ent × Value), (flatP its).take (i * 33) ++ (encP p.1.1 p.2 ++ (flatP its).drop (i * 33 + 33)) = flatP (its.set i p)
  | [], _, i, hi, _ => by simp at hi
  | q :: r, hl, 0, _, p => by
    have h1 := encP_length q.1.1 q.2 (hl q (by simp))
    simp only [flatP, List.flatMap_cons, List.set_cons_zero, Nat.zero_mul, List.take_zero, List.nil_append, Nat.zero_add]
    rw [List.drop_append_of_le_length (by omega), List.drop_eq_nil_of_le (by omega), List.nil_append]
  | q :: r, hl, i + 1, hi, p => by
    have h1 := encP_length q.1.1 q.2 (hl q (by simp))
    have ih := flatP_set r (fun x hx => hl x (by simp [hx])) i (by simpa using hi) p
    simp only [flatP, List.flatMap_cons, List.set_cons_succ] at ih ⊢
    rw [← ih, show (i + 1) * 33 = (encP q.1.1 q.2).length + i * 33 by omega, List.take_length_add_append, show (encP q.1.1 q.2).length + i * 33 + 33 = (encP q.1.1 q.2).length + (i * 33 + 33) by omega, List.drop_length_add_append, List.append_assoc]

theorem own_set {w : World} {base g n c i : Nat} {its : List (Ent × Value)} (h : w.ownsRow base 45 33 (.slice (some ⟨g, 0, none⟩) n c) n (flatP its)) (hn : its.length = n) (hl : ∀ q ∈ its, q.1.1.length = 32) (hi : i < n) (p : Ent × Value) (hp : p.1.1.length = 32) :
    (w.setCells g (i * 33) (encP p.1.1 p.2)).ownsRow base 45 33 (.slice (some ⟨g, 0, none⟩) n c) n (flatP (its.set i p)) := by
  have hl2 : ∀ q ∈ its.set i p, q.1.1.length = 32 := fun q hq => by
    rcases List.mem_or_eq_of_mem_set hq with hq | rfl
    · exact hl q hq
    · exact hp
  have e33 := encP_length p.1.1 p.2 hp
  rcases h.2 with ⟨e, e2⟩ | ⟨g', cap, cur, e, hb, hg, hc, hm, hs, ht⟩
  · omega
  · injection e with e1 e2 e3
    injection e1 with e1
    injection e1 with e1
    subst e1
    subst e3
    have hfit : i * 33 + (encP p.1.1 p.2).length ≤ cur.size := by rw [e33, hs]; omega
    have hB := Blk.cells (encP p.1.1 p.2) (i * 33) (show Blk w g 45 cur from hg) hfit
    refine ⟨by rw [flatP_length _ hl2, List.length_set, hn], .inr ⟨g, c, _, rfl, hb, hB, hc, hm, ?_, ?_⟩⟩
    · simp only [List.size_toArray, List.length_append, List.length_take, List.length_drop, Array.length_toList]
      omega
    · rw [← flatP_set its hl i (by omega) p, ← ht, e33]
      have hcl : cur.toList.length = c * 33 := by rw [Array.length_toList]; exact hs
      rw [List.take_take, List.drop_take, Nat.min_eq_left (by omega)]
      dsimp only
      rw [List.take_append, List.take_append, List.length_take, Nat.min_eq_left (by omega), List.take_take, Nat.min_eq_right (by omega), e33, List.take_of_length_le (l := encP p.1.1 p.2) (by omega)]
      congr 3

theorem own_range {w : World} {base g n c i : Nat} {its : List (Ent × Value)} (h : w.ownsRow base 45 33 (.slice (some ⟨g, 0, none⟩) n c) n (flatP its)) (hn : its.length = n) (hl : ∀ q ∈ its, q.1.1.length = 32) (hi : i < n) : w.rangeAt g (i * 33) (encP (its.getD i (e00, undef)).1.1 (its.getD i (e00, undef)).2) ∧ w.there g (i * 33) 33 := by
  rcases h.2 with ⟨e, e2⟩ | ⟨g', cap, cur, e, hb, hg, hc, hm, hs, ht⟩
  · omega
  · injection e with e1 e2 e3
    injection e1 with e1
    injection e1 with e1
    subst e1
    subst e3
    constructor
    · intro j u hu
      have e2 : its.getD i (e00, undef) = its[i] := by simp [List.getD, show i < its.length by omega]
      rw [e2] at hu
      have h1 := flatP_at its hl i (by omega) j u hu
      rw [← ht] at h1
      have h2 : (cur.toList)[i * 33 + j]? = some u := by
        rw [List.getElem?_take] at h1
        split at h1
        · exact h1
        · cases h1
      rw [cell_of_row w g _ cur _ _ hg]
      simpa using h2
    · exact Blk.there (show Blk w g 45 cur from hg) (i * 33) 33 (by rw [hs]; omega)

end Go.Proofs.YtpihigcnoifcfaaGreatDoor
