/- What NodeOrder asks, by definition: roots under a turned list, both sides' roots, the top of a key's way; entries turned about in memory. -/
import Derived.Test.YtpihigcnoifcfaaGreatDoorVw37
import Derived.Test.YtpihigcnoifcfaaGreatDoorVw28
import Derived.Test.YtpihigcnoifcfaaGreatDoorVw41
import Derived.Test.YtpihigcnoifcfaaGreatDoorVw20
import Derived.Test.YtpihigcnoifcfaaGreatDoorVw35
namespace Go.Proofs.YtpihigcnoifcfaaGreatDoor
set_option maxRecDepth 20000
open Go.RowKit

/-- May entries be, in another order. -/
theorem errB_perm {es fs : List Ent} (h : es.Perm fs) (hl : es.length ≤ 4096) : errB es = 0 ↔ errB fs = 0 := by
  have hl2 : fs.length ≤ 4096 := by rw [← h.length_eq]; exact hl
  have one : ∀ {a b : List Ent}, a.Perm b → a.length ≤ 4096 → b.length ≤ 4096 → errB a = 0 → errB b = 0 := by
    intro a b p q1 q2 e
    rw [errB, if_neg (by omega)] at e
    rw [errB, if_neg (by omega)]
    obtain ⟨h1, h2, _⟩ := lsE_ok [] a e
    refine lsE_of [] b (fun x hx => h1 x (p.mem_iff.2 hx)) ?_ (fun x _ => by simp)
    exact (List.Perm.pairwise_iff (fun {x y} hxy => Ne.symm hxy) p).1 h2
  exact ⟨one h hl hl2, one h.symm hl2 hl⟩

def rtH (es : List Ent) : List Int := if errB es = 0 then rt 256 0 es else z32
theorem rtH_len (es : List Ent) : (rtH es).length = 32 ∧ Bytes (rtH es) := by
  unfold rtH
  split
  · exact rt_len _ _ _
  · exact ⟨rfl, z32_bytes⟩
theorem rootIs_zero {es : List Ent} {h : List Int} {E : Int} (p : RootIs es 0 h E) : h = rtH es ∧ E = errB es := by
  unfold rtH
  cases p with
  | out q => omega
  | bad _ _ _ q1 q2 => rw [if_neg (by rw [q1]; exact q2)]; exact ⟨rfl, q1.symm⟩
  | part _ _ q1 q2 => exact absurd (fun _ _ _ _ j hj => by simp at hj) q2
  | good _ _ q1 q2 => rw [if_pos q1]; exact ⟨by simp, q1.symm⟩
theorem rtH_perm {es fs : List Ent} (h : es.Perm fs) (hl : es.length ≤ 4096) : rtH es = rtH fs := by
  unfold rtH
  by_cases e : errB es = 0
  · rw [if_pos e, if_pos ((errB_perm h hl).1 e)]
    exact rt_perm 256 0 es fs h
  · rw [if_neg e, if_neg (fun q => e ((errB_perm h hl).2 q))]

theorem errB_side {es : List Ent} (h : errB es = 0) (hl : es.length ≤ 4096) (d : Nat) (b : Int) : errB (sideOf es d b) = 0 := by
  rw [errB, if_neg (by omega)] at h
  obtain ⟨h1, h2, _⟩ := lsE_ok [] es h
  have h3 : (sideOf es d b).length ≤ es.length := List.length_filter_le _ _
  rw [errB, if_neg (by omega)]
  exact lsE_of [] _ (fun x hx => h1 x (List.mem_filter.1 hx).1) (h2.side d b) (fun x _ => by simp)
theorem rootIs_side {es : List Ent} {h : List Int} {E b : Int} (he : errB es = 0) (hl : es.length ≤ 4096) (p : RootIs (sideOf es 0 b) 1 h E) : h = rt 255 1 (sideOf es 0 b) ∧ E = 0 := by
  have e0 := errB_side he hl 0 b
  have hs : SameE (sideOf es 0 b) 1 := by
    intro x hx y hy j hj
    obtain rfl : j = 0 := by omega
    unfold sideOf at hx hy
    rw [List.mem_filter, beq_iff_eq, kbi_in _ _ (by omega)] at hx hy
    rw [hx.2, hy.2]
  cases p with
  | out q => omega
  | bad _ _ _ q1 q2 => exact absurd (q1.symm.trans e0) q2
  | part _ _ q1 q2 => exact absurd (by simpa using hs) q2
  | good _ _ q1 q2 => exact ⟨by simp, rfl⟩

theorem emz_dig : dig [0] = [110, 52, 11, 156, 255, 179, 122, 152, 156, 165, 68, 230, 187, 120, 10, 44, 120, 144, 29, 63, 179, 55, 56, 118, 133, 17, 163, 6, 23, 175, 160, 29] := by kernel_rfl
theorem emz_ne : emD ≠ z32 := by
  rw [emD, emz_dig]
  decide

/-- The top of a key's way. -/
theorem order_up {es : List Ent} {key : List Int} (he : errB es = 0) (hl : es.length ≤ 4096) (hk : ∀ e ∈ es, Key e.1) :
    ∃ k a b c d, wyN es key = nd k a b c d ∧ Nd k a b c d ∧ upH key (wyH es key) k a b c d = rt 256 0 es ∧ upE (wyH es key) k a b c d = 0 ∧ ((k = 1 ∧ a = key) ↔ key ∈ es.map (·.1)) := by
  have he' := he
  rw [errB, if_neg (by omega)] at he'
  obtain ⟨_, h2, _⟩ := lsE_ok [] es he'
  obtain ⟨u1, u2⟩ := up_way 256 0 es key (by omega) hk h2 (fun e _ j hj => by omega)
  have hH : wyH es key = sds 256 0 es key := by rw [wyH, if_pos he]
  have hN : wyN es key = endN (rst 256 0 es key) := by rw [wyN, if_pos he]
  have hle : (sds 256 0 es key).length ≤ 256 := sds_length _ _ _ _
  have hmem : ∀ e, e ∈ es → e.1 = key → e ∈ rst 256 0 es key := fun e h1 h2 => rst_mem 256 0 es key e (by omega) h1 h2
  have hsub : ∀ e, e ∈ rst 256 0 es key → e ∈ es := fun e h => rst_sub 256 0 es key e h
  rw [hH, hN]
  match hr : rst 256 0 es key, u1 with
  | [], _ =>
    rw [hr] at hmem u2
    rw [rt_nil] at u2
    have ok : okN 0 z32 z32 z32 z32 = true := by simp [okN]
    refine ⟨0, z32, z32, z32, z32, rfl, nd_zero, ?_, ?_, ?_⟩
    · rw [upH, if_neg (by omega), if_pos ⟨ok, by omega⟩, dgN, if_pos ok, txN, if_pos ok, if_neg (by omega), if_neg (by omega)]
      exact u2
    · rw [upE, if_neg (by omega), if_pos ⟨ok, by omega⟩]
    · constructor
      · intro h
        omega
      · intro h
        obtain ⟨e, h1, h2⟩ := List.mem_map.1 h
        exact absurd (hmem e h1 h2) (by simp)
  | [e], _ =>
    rw [hr] at hmem hsub u2
    rw [rt_one] at u2
    have hke := hk e (hsub e (by simp))
    have ok : okN 1 e.1 (vaD e.2) z32 z32 = true := by simp [okN]
    refine ⟨1, e.1, vaD e.2, z32, z32, rfl, ⟨by omega, by omega, hke.1, dig_length _, rfl, rfl, hke.2, dig_bytes _, z32_bytes, z32_bytes⟩, ?_, ?_, ?_⟩
    · rw [upH, if_neg (by omega), if_pos ⟨ok, by omega⟩, dgN, if_pos ok, txN, if_pos ok, if_pos rfl]
      exact u2
    · rw [upE, if_neg (by omega), if_pos ⟨ok, by omega⟩]
    · constructor
      · rintro ⟨_, h⟩
        exact List.mem_map.2 ⟨e, hsub e (by simp), h⟩
      · intro h
        obtain ⟨x, h1, h2⟩ := List.mem_map.1 h
        have := hmem x h1 h2
        obtain rfl : x = e := by simpa using this
        exact ⟨rfl, h2⟩

/-- Whether a key is among the first entries. -/
def thr (es : List Ent) (key : List Int) (k : Nat) : Bool := decide (key ∈ (es.take k).map (·.1))
theorem thr_step (es : List Ent) (key : List Int) (k : Nat) (hk : k < es.length) : thr es key (k + 1) = (thr es key k || decide ((es.getD k e00).1 = key)) := by
  unfold thr
  rw [keys_take es k hk, ← Bool.decide_or]
  congr 1
  simp only [List.mem_append, List.mem_singleton, eq_iff_iff]
  exact or_congr Iff.rfl eq_comm

/-- Own entries behind a store elsewhere. -/
theorem ownP_kept {w w' : World} {base n : Nat} {v : Value} {xs : List Value} {row : Option Nat} (h : w.ownsRow base 45 33 v n xs) (hg : w.grownBy w' row) (hne : v.ownBlock = none ∨ v.ownBlock ≠ row) : w'.ownsRow base 45 33 v n xs := h.kept hg hne

end Go.Proofs.YtpihigcnoifcfaaGreatDoor

/- The first entries of a list in memory (moved out of PuMq). -/
namespace Go.Proofs.YtpihigcnoifcfaaGreatDoor
set_option maxRecDepth 20000
open Go.RowKit

/-- The first entries of a list in memory. -/
theorem PrAt.take {w : World} {a : Option Addr} {n cap : Nat} {V : Nat → Value} {es : List Ent} (h : PrAt w (.slice a n cap) V es) (hn : n = es.length) (k : Nat) (hk : k ≤ n) : PrAt w (.slice a k cap) V (es.take k) := by
  obtain ⟨a', cap', e, h1, h2, h3⟩ := h
  injection e with e1 e2 e3
  subst e1 e3
  have hl : (es.take k).length = k := by rw [List.length_take]; omega
  have hg : ∀ i, i < k → (es.take k).getD i e00 = es.getD i e00 := fun i hi => by
    simp only [List.getD_eq_getElem?_getD, List.getElem?_take]
    rw [if_pos hi]
  refine ⟨a, cap, by rw [hl], by rw [hl]; omega, fun hp => ?_, fun i hi => ?_⟩
  · rw [hl] at hp
    obtain ⟨g, off, ea, hr⟩ := h2 (by omega)
    exact ⟨g, off, ea, fun i hi => by rw [hl] at hi; rw [hg i hi]; exact hr i (by omega)⟩
  · rw [hl] at hi
    rw [hg i hi]
    exact h3 i (by omega)

end Go.Proofs.YtpihigcnoifcfaaGreatDoor

/- A way's bytes by definition: they are accepted under the root of their entries, say what is there, and are accepted under no other root. -/
namespace Go.Proofs.YtpihigcnoifcfaaGreatDoor
set_option maxRecDepth 20000
open Go.RowKit

/-- What is left at a way's end has the key's first bits, as many as there are sides. -/
theorem rst_share : ∀ (n d : Nat) (l : List Ent) (key : List Int), d + n = 256 → Share l key d → Share (rst n d l key) key (d + (sds n d l key).length) := by
  intro n
  induction n with
  | zero => intro d l key _ h; simpa [rst, sds] using h
  | succ n ih =>
    intro d l key hd h
    unfold rst sds
    by_cases q : l.length ≤ 1
    · rw [if_pos q, if_pos q]
      simpa using h
    · rw [if_neg q, if_neg q]
      have := ih (d + 1) (sideOf l d (kb key d)) key (by omega) (h.side (by omega))
      rw [List.length_cons, show d + ((sds n (d + 1) (sideOf l d (kb key d)) key).length + 1) = d + 1 + (sds n (d + 1) (sideOf l d (kb key d)) key).length by omega]
      exact this

/-- A way's end and sides: what verify makes of them. -/
structure WayIs (es : List Ent) (key : List Int) (k : Int) (a b c d : List Int) : Prop where
  nd : wyN es key = nd k a b c d
  Nd : Nd k a b c d
  ok : chE (wyH es key) k a b c d = 0
  up : upH key (wyH es key) k a b c d = rtH es
  und : k = 1 → undB a key (wyH es key).length = true
  there : ∀ e ∈ es, e.1 = key → k = 1 ∧ a = key ∧ b = vaD e.2
  absent : (∀ e ∈ es, e.1 ≠ key) → vfO key k a = false

theorem dgN_z0 : dgN 0 z32 z32 z32 z32 = emD := by
  rw [dgN, if_pos (by simp [okN])]
  rfl
theorem dgN_leaf (a b : List Int) : dgN 1 a b z32 z32 = lfD a b := by
  rw [dgN, if_pos (by simp [okN])]
  rfl

theorem wayIs {es : List Ent} {key : List Int} (hk : ∀ e ∈ es, Key e.1) (hE : errB es = 0) : ∃ k a b c d, WayIs es key k a b c d := by
  have hl : ¬ 4096 < es.length := fun h => by rw [errB, if_pos h] at hE; omega
  have hE2 := hE
  rw [errB, if_neg hl] at hE2
  obtain ⟨_, hap, _⟩ := lsE_ok [] es hE2
  have hS : Share es key 0 := fun _ _ j hj => by omega
  obtain ⟨h1, h2⟩ := up_way 256 0 es key rfl hk hap hS
  have h3 := rst_share 256 0 es key rfl hS
  have hH : wyH es key = sds 256 0 es key := by rw [wyH, if_pos hE]
  have hN : wyN es key = endN (rst 256 0 es key) := by rw [wyN, if_pos hE]
  have hR : rtH es = rt 256 0 es := by rw [rtH, if_pos hE]
  have hn := sds_length 256 0 es key
  have hsub := rst_sub 256 0 es key
  have hmem := fun e => rst_mem 256 0 es key e rfl
  rw [Nat.zero_add] at h3
  generalize rst 256 0 es key = R at *
  generalize sds 256 0 es key = S at *
  match R, h1 with
  | [], _ =>
    refine ⟨0, z32, z32, z32, z32, ⟨?_, z_nd, ?_, ?_, ?_, ?_, ?_⟩⟩
    · rw [hN]; rfl
    · rw [hH, chE, if_neg (by omega), if_neg (by omega), okE, if_pos (by simp [okN])]
    · rw [hH, hR, upH, if_neg (by omega), if_pos ⟨by simp [okN], by omega⟩, dgN_z0, ← h2, rt_nil]
    · intro h; omega
    · intro e he hek
      have := hmem e he hek
      simp at this
    · intro _; rfl
  | [e], _ =>
    have he : e ∈ es := hsub e (by simp)
    have hke := hk e he
    refine ⟨1, e.1, vaD e.2, z32, z32, ⟨?_, ⟨by omega, by omega, hke.1, dig_length _, rfl, rfl, hke.2, dig_bytes _, z32_bytes, z32_bytes⟩, ?_, ?_, ?_, ?_, ?_⟩⟩
    · rw [hN]; rfl
    · rw [hH, chE, if_neg (by omega), if_neg (by omega), okE, if_pos (by simp [okN])]
    · rw [hH, hR, upH, if_neg (by omega), if_pos ⟨by simp [okN], by omega⟩, dgN_leaf, ← h2, rt_one, enD]
    · intro _
      rw [hH, undB_iff]
      exact ⟨by omega, by omega, fun j hj => h3 e (by simp) j (by omega)⟩
    · intro x hx hxk
      obtain rfl : x = e := by simpa using hmem x hx hxk
      exact ⟨rfl, hxk, rfl⟩
    · intro h
      have := h e he
      simp [vfO, this]

/-- The bytes of a way. -/
structure WayB (es : List Ent) (key X : List Int) (k : Int) (a b c d : List Int) : Prop where
  n : dpN X = nd k a b c d
  rd : ∀ other, rdE other key X k a b c d = if rtH es = other then 0 else 11
  own : rdB (rtH es) key X k a b c d = vfO key k a
  val : vfO key k a = true → rdV (rtH es) key X k a b c d = b
theorem WayIs.bytes {es : List Ent} {key : List Int} {k : Int} {a b c d : List Int} (h : WayIs es key k a b c d) : WayB es key (pkE (wyH es key) k a b c d) k a b c d := by
  have hdg : Dg (wyH es key) := wyH_dgs es key
  obtain ⟨h1, h2, h3⟩ := dec_told hdg h.Nd h.ok
  have eH : dpH (pkE (wyH es key) k a b c d) = wyH es key := by rw [dpH, if_pos h1, h2]
  have eA : ∀ other, vfA other key (wyH es key) k a b c d = decide (rtH es = other) := fun other => by
    rw [vfA, h.up]
    by_cases q : k = 1
    · rw [h.und q]; simp
    · simp [q]
  have eB : rdB (rtH es) key (pkE (wyH es key) k a b c d) k a b c d = vfO key k a := by
    rw [rdB, rdA, eH, eA, decide_eq_true h1]; simp
  refine ⟨by rw [dpN, if_pos h1, h3], fun other => ?_, eB, fun q => by rw [rdV, if_pos (by rw [eB]; exact q)]⟩
  rw [rdE, if_pos h1, eH, eA]
  by_cases q : rtH es = other <;> simp [q]

end Go.Proofs.YtpihigcnoifcfaaGreatDoor
