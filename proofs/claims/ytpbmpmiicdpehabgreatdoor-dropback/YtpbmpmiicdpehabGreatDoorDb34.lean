/- The laws' pairs: the entries that writes lead to, the last value of each key; as a contract. -/
import Derived.Test.YtpbmpmiicdpehabGreatDoorDb33
import Derived.Test.YtpbmpmiicdpehabGreatDoorDb32
import Derived.Test.YtpbmpmiicdpehabGreatDoorDb07
import Derived.Deep.RegionHeld
import Derived.Deep.RegionHeld2
namespace Go.Proofs.YtpbmpmiicdpehabGreatDoor
set_option maxRecDepth 20000
open Go.RowKit

theorem at_bsd {P : Program} {ops : Array Oper} {Q : Exit → Act → World → Prop} {rest : List Oper} {a : Act} {w : World} {ty t : TypeId} {p : String} {f : Array Edge} {g : Option (Nat × Bool)} {n : Nat} {x : Array (Nat × Operand)} (k : Nat)
    (h : wpList P ops Q (Oper.mk (some k) (.buildSlice ty n x) t p f g :: rest) a w) : wpList P ops Q (Oper.mk (some k) (.buildSlice ty n x) t p f g :: rest) a w := h

abbrev It := Ent × Value
def i00 : It := (e00, undef)
/-- The last of the first k items that has this key. -/
def atI (its : List It) (K : List Int) : Nat → Option Nat
  | 0 => none
  | k + 1 => if (its.getD k i00).1.1 = K then some k else atI its K k
def atZ (o : Option Nat) : Int := match o with | none => -1 | some j => (j : Int)
/-- An item takes the place of the one with its key, or comes behind. -/
def upI (its : List It) (p : It) : List It := match atI its p.1.1 its.length with | none => its ++ [p] | some j => its.set j p
def prI (l : List It) : List It := l.foldl upI []
def inI (es : List Ent) (V : Nat → Value) : List It := (List.range es.length).map fun i => (es.getD i e00, V i)

theorem prI_snoc (l : List It) (p : It) : prI (l ++ [p]) = upI (prI l) p := by simp [prI]
theorem inI_len (es : List Ent) (V : Nat → Value) : (inI es V).length = es.length := by simp [inI]
theorem inI_take (es : List Ent) (V : Nat → Value) (k : Nat) (hk : k < es.length) : (inI es V).take (k + 1) = (inI es V).take k ++ [(es.getD k e00, V k)] := by
  rw [List.take_add_one, List.getElem?_eq_getElem (by rw [inI_len]; exact hk)]
  simp [inI]

theorem atI_some {its : List It} {K : List Int} : ∀ {k j : Nat}, atI its K k = some j → j < k ∧ (its.getD j i00).1.1 = K
  | 0, j, h => by cases h
  | k + 1, j, h => by
    unfold atI at h
    split at h
    · rename_i hq
      injection h with h
      subst h
      exact ⟨by omega, hq⟩
    · have := atI_some h
      exact ⟨by omega, this.2⟩
theorem atI_none {its : List It} {K : List Int} : ∀ {k : Nat}, atI its K k = none → ∀ j, j < k → (its.getD j i00).1.1 ≠ K
  | 0, _, j, hj => by omega
  | k + 1, h, j, hj => by
    unfold atI at h
    split at h
    · cases h
    · rename_i hq
      by_cases e : j = k
      · rw [e]
        exact hq
      · exact atI_none h j (by omega)

theorem upI_len (its : List It) (p : It) : (upI its p).length ≤ its.length + 1 := by
  unfold upI
  split
  · simp
  · simp
theorem upI_mem {its : List It} {p q : It} (h : q ∈ upI its p) : q ∈ its ∨ q = p := by
  unfold upI at h
  split at h
  · simpa using h
  · exact List.mem_or_eq_of_mem_set h
theorem prI_mem : ∀ (n : Nat) (l : List It), l.length = n → ∀ q ∈ prI l, q ∈ l
  | 0, l, hn, q, hq => by
    obtain rfl := List.eq_nil_of_length_eq_zero hn
    cases hq
  | n + 1, l, hn, q, hq => by
    rcases List.eq_nil_or_concat l with e | ⟨r, p, e⟩
    · rw [e] at hn
      simp at hn
    · rw [List.concat_eq_append] at e
      subst e
      rw [prI_snoc] at hq
      rcases upI_mem hq with h | h
      · exact List.mem_append_left _ (prI_mem n r (by simpa using hn) q h)
      · exact List.mem_append_right _ (by simp [h])
theorem prI_len : ∀ (n : Nat) (l : List It), l.length = n → (prI l).length ≤ n
  | 0, l, hn => by
    obtain rfl := List.eq_nil_of_length_eq_zero hn
    simp [prI]
  | n + 1, l, hn => by
    rcases List.eq_nil_or_concat l with e | ⟨r, p, e⟩
    · rw [e] at hn
      simp at hn
    · rw [List.concat_eq_append] at e
      subst e
      rw [prI_snoc]
      have h1 := upI_len (prI r) p
      have h2 := prI_len n r (by simpa using hn)
      omega

/-- One of a list of unlike keys gets another value. -/
theorem set_up : ∀ (l : List Ent) (j : Nat) (hj : j < l.length) (e : Ent), (l.Pairwise fun a b => a.1 ≠ b.1) → l[j].1 = e.1 → (l.set j e).Perm (upE l e.1 e.2) ∧ ((l.set j e).Pairwise fun a b => a.1 ≠ b.1)
  | [], j, hj, _, _, _ => by simp at hj
  | x :: r, 0, _, e, hp, hk => by
    obtain ⟨h1, h2⟩ := List.pairwise_cons.1 hp
    have hk : x.1 = e.1 := hk
    have hr : r.filter (fun a : Ent => !(a.1 == e.1)) = r := List.filter_eq_self.2 (fun y hy => by
      have := h1 y hy
      rw [hk] at this
      simp only [Bool.not_eq_true', beq_eq_false_iff_ne, ne_eq]
      exact fun q => this q.symm)
    constructor
    · unfold upE
      rw [List.set_cons_zero, List.filter_cons, if_neg (by simp [hk]), hr]
    · rw [List.set_cons_zero]
      exact List.pairwise_cons.2 ⟨fun y hy => by rw [← hk]; exact h1 y hy, h2⟩
  | x :: r, j + 1, hj, e, hp, hk => by
    obtain ⟨h1, h2⟩ := List.pairwise_cons.1 hp
    have hj' : j < r.length := by simpa using hj
    have hk' : r[j].1 = e.1 := by simpa using hk
    obtain ⟨i1, i2⟩ := set_up r j hj' e h2 hk'
    have hx : x.1 ≠ e.1 := by rw [← hk']; exact h1 _ (List.getElem_mem hj')
    rw [List.set_cons_succ]
    constructor
    · unfold upE at i1 ⊢
      rw [List.filter_cons, if_pos (by simpa using hx)]
      exact (List.Perm.cons x i1).trans (List.Perm.swap _ _ _)
    · refine List.pairwise_cons.2 ⟨fun y hy => ?_, i2⟩
      rcases List.mem_or_eq_of_mem_set hy with q | q
      · exact h1 y q
      · rw [q]
        exact hx

theorem upI_up (its : List It) (p : It) (hp : (its.map (·.1)).Pairwise fun a b => a.1 ≠ b.1) : ((upI its p).map (·.1)).Perm (upE (its.map (·.1)) p.1.1 p.1.2) ∧ (((upI its p).map (·.1)).Pairwise fun a b => a.1 ≠ b.1) := by
  have hg : ∀ j (hj : j < its.length), its.getD j i00 = its[j] := fun j hj => by simp [List.getD, hj]
  unfold upI
  cases h : atI its p.1.1 its.length with
  | none =>
    have hn : ∀ e ∈ its.map (·.1), e.1 ≠ p.1.1 := fun e he => by
      obtain ⟨q, hq, rfl⟩ := List.mem_map.1 he
      obtain ⟨j, hj, rfl⟩ := List.mem_iff_getElem.1 hq
      have := atI_none h j hj
      rwa [hg j hj] at this
    have hf : (its.map (·.1)).filter (fun a : Ent => !(a.1 == p.1.1)) = its.map (·.1) := List.filter_eq_self.2 (fun y hy => by
      have := hn y hy
      simpa using this)
    simp only [List.map_append, List.map_cons, List.map_nil]
    constructor
    · unfold upE
      rw [hf]
      exact List.perm_append_comm
    · rw [List.pairwise_append]
      exact ⟨hp, List.pairwise_singleton _ _, fun a ha b hb => by rw [List.mem_singleton.1 hb]; exact hn a ha⟩
  | some j =>
    obtain ⟨h1, h2⟩ := atI_some h
    rw [hg j h1] at h2
    simp only [List.map_set]
    exact set_up (its.map (·.1)) j (by simpa using h1) p.1 hp (by simpa using h2)

theorem prI_apart : ∀ (n : Nat) (l : List It), l.length = n → ((prI l).map (·.1)).Pairwise fun a b => a.1 ≠ b.1
  | 0, l, hn => by
    obtain rfl := List.eq_nil_of_length_eq_zero hn
    exact List.Pairwise.nil
  | n + 1, l, hn => by
    rcases List.eq_nil_or_concat l with e | ⟨r, p, e⟩
    · rw [e] at hn
      simp at hn
    · rw [List.concat_eq_append] at e
      subst e
      rw [prI_snoc]
      exact (upI_up _ p (prI_apart n r (by simpa using hn))).2

/-- What pairs answers. -/
def PsPost (es : List Ent) (V : Nat → Value) (w : World) (e : Ending) (w' : World) : Prop :=
  ∃ a c, e = .returned (.slice a (prI (inI es V)).length c) ∧ w'.ownsRow w.heap.size 52 33 (.slice a (prI (inI es V)).length c) (prI (inI es V)).length (flatP (prI (inI es V))) ∧ Below w.heap.size w w'

theorem sz_pair9 (k : List Int) (v : Value) (h : k.length = 32) : (Tryz.prog.info? 52).map (·.size) = some (encP k v).toArray.size := by
  rw [List.size_toArray, encP_length k v h]
  kernel_rfl
theorem encP_one9 (k : List Int) (v : Value) (hv : v.oneCell' = true) : (encP k v).toArray.all (·.oneCell') = true := by
  refine all_oneCell_toArray (fun u hu => ?_)
  unfold encP at hu
  rcases List.mem_append.1 hu with h | h
  · obtain ⟨z, _, rfl⟩ := List.mem_map.1 h
    rfl
  · rw [List.mem_singleton.1 h]
    exact hv
theorem wpList_st9 {ops : Array Oper} {rest : List Oper} {op : Oper} {a : Act} {Q : Exit → Act → World → Prop} (w : World) (hgd : op.guard = none) (ty : TypeId) (x y : Operand) (ho : op.op = .store ty x y)
    (b off : Nat) (cells : Array Value) (hx : a.eval x = .pointer (some ⟨b, off, none⟩)) (hy : a.eval y = .agg cells) (ht : w.there b off cells.size) (hi : (Tryz.prog.info? ty).map (·.size) = some cells.size) (h1 : cells.all (·.oneCell') = true)
    (h : wpList Tryz.prog ops Q rest (a.put op.dst undef) (w.setCells b off cells.toList)) : wpList Tryz.prog ops Q (op :: rest) a w :=
  wpList_plain hgd fun _ hK => wp_store_mid ty x y ho b off cells hx hy ht hi h1 (hK _ _ h)

end Go.Proofs.YtpbmpmiicdpehabGreatDoor

/- The law's without: entries but for a key's; as a contract. -/
namespace Go.Proofs.YtpbmpmiicdpehabGreatDoor
set_option maxRecDepth 20000
open Go.RowKit

/-- Items without a key's. -/
def woI (K : List Int) (its : List It) : List It := its.filter fun p => !(p.1.1 == K)
theorem inI_ents (es : List Ent) (V : Nat → Value) : (inI es V).map (·.1) = es := by
  unfold inI
  rw [List.map_map]
  apply List.ext_getElem
  · simp
  · intro i h1 h2
    simp [List.getD, h2]
theorem woI_ents (K : List Int) (its : List It) : (woI K its).map (·.1) = dlE (its.map (·.1)) K := by
  unfold woI dlE
  rw [List.filter_map]
  rfl
theorem dl_len (es : List Ent) (K : List Int) : (dlE es K).length ≤ es.length := List.length_filter_le _ _
theorem hasK_len (es : List Ent) (K : List Int) : hasK es K = decide ((dlE es K).length < es.length) := by
  rw [Bool.eq_iff_iff, decide_eq_true_eq]
  constructor
  · intro h
    obtain ⟨e, h1, h2⟩ := List.any_eq_true.1 h
    unfold dlE
    exact List.length_filter_lt_length_iff_exists.2 ⟨e, h1, by simpa using h2⟩
  · intro h
    obtain ⟨e, h1, h2⟩ := List.length_filter_lt_length_iff_exists.1 h
    exact List.any_eq_true.2 ⟨e, h1, by simpa using h2⟩

/-- What without answers: a list of its own, apart from the blocks S. -/
def WoPost (S : List Nat) (es : List Ent) (K : List Int) (w : World) (e : Ending) (w' : World) : Prop :=
  ∃ a c V', e = .returned (.tuple #[.slice a (dlE es K).length c, .bool (hasK es K)]) ∧ Kq S w' (fun z => PrAt z (.slice a (dlE es K).length c) V' (dlE es K)) ∧ Below w.heap.size w w'

theorem kq_prAt_own {S : List Nat} {w w' : World} {a : Option Addr} {n c : Nat} {its : List It} (hS : ∀ k ∈ S, k < w.heap.size) (ho : w'.ownsRow w.heap.size 52 33 (.slice a n c) n (flatP its)) (hn : n = its.length) (hk : ∀ p ∈ its, Key p.1.1) (hr : ∀ p ∈ its, Kq S w' (fun z => Reads z p.2 p.1.2)) : Kq S w' (fun z => PrAt z (.slice a n c) (fun i => (its.getD i (e00, undef)).2) (its.map (·.1))) := fun z m => by
  have h2 := owR_mod ho m (fun g hg hs => by
    have := (ho.lt g hg).1
    have := hS g hs
    omega)
  rw [hn] at h2 ⊢
  exact prAt_own h2 hk (fun p hp => hr p hp z m)

set_option maxHeartbeats 4000000 in
theorem without_any {w : World} {v : Value} {V : Nat → Value} {es : List Ent} {S : List Nat} (hS : ∀ k ∈ S, k < w.heap.size) (hv : Kq S w (fun w' => PrAt w' v V es)) (hn : es.length ≤ 14) {K : List Int} (hK : Key K) : Calls Tryz.prog 8 #[v, .agg (B K)] w (WoPost S es K w) := by
  obtain ⟨a, cap, hve, hcap, hc, hr⟩ := hv.now
  subst hve
  have HIT : Hid (∀ k, k < es.length → ∃ lb off KK bs ua ul uc, a = some ⟨lb, off, none⟩ ∧ (inI es V).take (k + 1) = (inI es V).take k ++ [((KK, bs), .slice ua ul uc)] ∧ Key KK ∧ (∀ w', Below w.heap.size w w' → w'.rangeAt lb (off + k * 33) (encP KK (.slice ua ul uc)))) := fun k hk => by
    obtain ⟨g, off, e1, h1⟩ := hc (by omega)
    obtain ⟨k1, k2⟩ := hr k hk
    obtain ⟨va, vc, e2, _⟩ := k2
    have h3 := h1 k hk
    have h4 := inI_take es V k hk
    rw [e2] at h3 h4
    exact ⟨g, off, _, _, va, _, vc, e1, h4, k1, fun w' hb => rng_grow h3 hb⟩
  have HRD : Hid (∀ p ∈ inI es V, Key p.1.1 ∧ Kq S w (fun z => Reads z p.2 p.1.2)) := fun p hp => by
    obtain ⟨i, hi, rfl⟩ := List.mem_map.1 hp
    have hi2 : i < es.length := by simpa using hi
    refine ⟨(hr i hi2).1, fun z m => ?_⟩
    obtain ⟨_, _, _, _, _, h5⟩ := hv z m
    exact (h5 i hi2).2
  have HPost : Hid (∀ w' a c, w'.ownsRow w.heap.size 52 33 (.slice a (woI K (inI es V)).length c) (woI K (inI es V)).length (flatP (woI K (inI es V))) → Below w.heap.size w w' → WoPost S es K w (.returned (.tuple #[.slice a (woI K (inI es V)).length c, .bool (decide ((woI K (inI es V)).length < es.length))])) w') := fun w' a c ho hb => by
    have hl : (woI K (inI es V)).length = (dlE es K).length := by
      have := congrArg List.length (woI_ents K (inI es V))
      rw [List.length_map, inI_ents] at this
      exact this
    have hm : ∀ p ∈ woI K (inI es V), p ∈ inI es V := fun p hp => (List.mem_filter.1 hp).1
    have := kq_prAt_own hS ho rfl (fun p hp => (HRD.out p (hm p hp)).1) (fun p hp => ((HRD.out p (hm p hp)).2).grow hb)
    rw [woI_ents, inI_ents, hl] at this
    refine ⟨a, c, _, ?_, this, hb⟩
    rw [hasK_len, hl]
  generalize WoPost S es K w = P at HPost ⊢
  have HPS : Hid ((Tryz.prog.info? 32).map (·.size) = some (B K).size) := by show _ = _; rw [B_size, hK.1]; exact size_path
  have HPL := hidden (pth_ln K hK.1)
  have HKK := hidden hK
  have HNL : Hid (woI K ((inI es V).take es.length) = woI K (inI es V)) := by
    show _ = _
    rw [List.take_of_length_le (by rw [inI_len]; exact Nat.le_refl _)]
  generalize es.length = n at hn HIT HPost HNL ⊢
  clear hS hv hcap hc hr hK HRD
  go_enter Tryz.func8, Tryz.ntmps8
  go_wp2_with (first
    | ((with_reducible refine at_bxd 3 ?_); refine wpList_bx _ rfl _ _ rfl _ rfl ?_; intro w1 b3 hg5 hl5 B5 q5; have HB3 := hidden B5; have HQ1 := hidden q5; clear hg5 hl5 B5 q5))
  go_loopw [6, 7] (fun ov iv wr => ∃ (k m : Nat) (oa : Option Addr) (oc : Nat), k ≤ n ∧ ov = .slice oa m oc ∧ iv = .int .i64 (k : Int) ∧ m ≤ k ∧ Hid (m = (woI K ((inI es V).take k)).length) ∧ Hid (wr.ownsRow w1.heap.size 52 33 (.slice oa m oc) m (flatP (woI K ((inI es V).take k)))) ∧ Hid (Below w1.heap.size w1 wr)) (fun _ iv _ => n - (intOf iv).toNat)
  case atStart => exact ⟨0, 0, none, 0, by omega, rfl, rfl, by omega, rfl, World.ownsRow_nil _ _ _ _, Below.refl _ _⟩
  case round =>
    obtain ⟨k, m, oa, oc, hk, rfl, rfl, hmk, HM, HO, HBR⟩ := hrel
    have HBW := hidden (grow_trans HQ1.out HBR.out)
    by_cases hlt : k < n
    · obtain ⟨lb, off, KK, bs, ua, ul, uc, rfl, htk, hKey, hrg⟩ := HIT.out k hlt
      have HKL := hidden hKey.1
      have HPK := hidden (pth_ln KK hKey.1)
      have HRG := hidden hrg
      have HTK := hidden htk
      have k0 : (0 : Int) ≤ (k : Int) := by omega
      have k1 : (k : Int) < (n : Int) := by omega
      have hk16 : k < 16 := by omega
      have hwk : wrap64 ((k : Int) + 1) = ((k + 1 : Nat) : Int) := by rw [Go.IntWalk.wrap64_in _ (by omega)]; rfl
      have hE := path_eq KK K hKey.1 HKK.out.1
      by_cases hq : KK = K
      · have HW : Hid (woI K ((inI es V).take (k + 1)) = woI K ((inI es V).take k)) := by
          show _ = _
          rw [HTK.out]
          simp [woI, hq]
        simp only [hq, decide_true] at hE
        subst hq
        clear htk hKey hrg hk HPost HIT
        go_wp2_with fail
        refine wp_region_held_drew (S := fun w' => Below wr.heap.size wr w') (by kernel_rfl) ((below_drewN (Below.refl _ _) 1)) (fun hHeld => ?_)
        refine wpAnyH_take (i := 0) (v := .slice (some ⟨lb, off, none⟩) n cap) rfl (by kernel_rfl) (by kernel_rfl) (by kernel_rfl) (fun _ _ _ h => h) (Or.inl ⟨by rfl, fun w hS => by go_simp⟩) hHeld ?_
        simp only [Act.put, List.getElem_toArray, List.getElem_cons_zero, List.setIfInBounds_toArray, List.set_cons_zero, List.set_cons_succ]
        refine wpAnyH_take (i := 1) (v := .int .i64 (k : Int)) rfl (by kernel_rfl) (by kernel_rfl) (by kernel_rfl) (fun _ _ _ h => h) (Or.inl ⟨by rfl, fun w hS => by go_simp⟩) hHeld ?_
        simp only [Act.put, List.getElem_toArray, List.getElem_cons_zero, List.getElem_cons_succ, List.setIfInBounds_toArray, List.set_cons_zero, List.set_cons_succ]
        refine wpAnyH_take (i := 2) (v := .pointer (some ⟨lb, off + k * 33, none⟩)) rfl (by kernel_rfl) (by kernel_rfl) (by kernel_rfl) (fun _ _ _ h => h) (Or.inl ⟨by rfl, fun w hS => by go_simp⟩) hHeld ?_
        simp only [Act.put, List.getElem_toArray, List.getElem_cons_zero, List.getElem_cons_succ, List.setIfInBounds_toArray, List.set_cons_zero, List.set_cons_succ]
        refine wpAnyH_take (i := 3) (v := .pointer (some ⟨lb, off + k * 33, none⟩)) rfl (by kernel_rfl) (by kernel_rfl) (by kernel_rfl) (fun _ _ _ h => h) (Or.inl ⟨by rfl, fun w hS => by go_simp⟩) hHeld ?_
        simp only [Act.put, List.getElem_toArray, List.getElem_cons_zero, List.getElem_cons_succ, List.setIfInBounds_toArray, List.set_cons_zero, List.set_cons_succ]
        refine wpAnyH_take (i := 4) (v := .agg (B KK)) rfl (by kernel_rfl) (by kernel_rfl) (by kernel_rfl) (fun _ _ _ h => h) (yieldsIf_load_mid rfl 32 (.tmp 17) rfl lb (off + k * 33) rfl (B KK).toList _ (fun w hS => rng_key (HRG.out _ (grow_trans HBW.out hS))) Tryz.underlying32 rfl HPK.out) hHeld ?_
        simp only [Act.put, List.getElem_toArray, List.getElem_cons_zero, List.getElem_cons_succ, List.setIfInBounds_toArray, List.set_cons_zero, List.set_cons_succ]
        refine wpAnyH_take (i := 5) (v := .agg (B KK)) rfl (by kernel_rfl) (by kernel_rfl) (by kernel_rfl) (fun _ _ _ h => h) (yieldsIf_load_mid rfl 32 (.tmp 3) rfl b3 0 rfl (B KK).toList _ (fun w hS => ((HB3.out.grow HBR.out).grow hS).range) Tryz.underlying32 rfl HPL.out) hHeld ?_
        simp only [Act.put, List.getElem_toArray, List.getElem_cons_zero, List.getElem_cons_succ, List.setIfInBounds_toArray, List.set_cons_zero, List.set_cons_succ]
        refine wpAnyH_take (i := 6) (v := .bool false) rfl (by kernel_rfl) (by kernel_rfl) (by kernel_rfl) (fun _ _ _ h => h) (Or.inl ⟨by rfl, fun w hS => by go_simp⟩) hHeld ?_
        simp only [Act.put, List.getElem_toArray, List.getElem_cons_zero, List.getElem_cons_succ, List.setIfInBounds_toArray, List.set_cons_zero, List.set_cons_succ]
        refine wpAnyH_done (by kernel_rfl) ?_ _
        have HHd := hidden hHeld
        clear hHeld
        go_wp2_with fail
        exact ⟨⟨k + 1, m, oa, oc, by omega, rfl, by go_num, by omega, by show _ = _; rw [HW.out]; exact HM.out, by show World.ownsRow _ _ _ _ _ _ _; rw [HW.out]; exact ownsP_below HO.out HHd.out, grow_trans HBR.out HHd.out⟩, by simp [intOf]; exact mea_step k1⟩
      · have HW : Hid (flatP (woI K ((inI es V).take (k + 1))) = flatP (woI K ((inI es V).take k)) ++ encP KK (.slice ua ul uc) ∧ (woI K ((inI es V).take (k + 1))).length = m + 1) := by
          rw [HTK.out]
          have e1 : woI K ((inI es V).take k ++ [((KK, bs), .slice ua ul uc)]) = woI K ((inI es V).take k) ++ [((KK, bs), .slice ua ul uc)] := by
            unfold woI
            rw [List.filter_append]
            simp [hq]
          rw [e1]
          exact ⟨flatP_snoc _ _, by rw [List.length_append, ← HM.out]; rfl⟩
        simp only [hq, decide_false] at hE
        generalize woI K ((inI es V).take k) = its at HM HO HW
        clear htk hKey hk HPost HIT hq
        go_wp2_with fail
        refine wp_region_held_drew (S := fun w' => Below wr.heap.size wr w') (by kernel_rfl) ((below_drewN (Below.refl _ _) 1)) (fun hHeld => ?_)
        refine wpAnyH_take (i := 0) (v := .slice (some ⟨lb, off, none⟩) n cap) rfl (by kernel_rfl) (by kernel_rfl) (by kernel_rfl) (fun _ _ _ h => h) (Or.inl ⟨by rfl, fun w hS => by go_simp⟩) hHeld ?_
        simp only [Act.put, List.getElem_toArray, List.getElem_cons_zero, List.setIfInBounds_toArray, List.set_cons_zero, List.set_cons_succ]
        refine wpAnyH_take (i := 1) (v := .int .i64 (k : Int)) rfl (by kernel_rfl) (by kernel_rfl) (by kernel_rfl) (fun _ _ _ h => h) (Or.inl ⟨by rfl, fun w hS => by go_simp⟩) hHeld ?_
        simp only [Act.put, List.getElem_toArray, List.getElem_cons_zero, List.getElem_cons_succ, List.setIfInBounds_toArray, List.set_cons_zero, List.set_cons_succ]
        refine wpAnyH_take (i := 2) (v := .pointer (some ⟨lb, off + k * 33, none⟩)) rfl (by kernel_rfl) (by kernel_rfl) (by kernel_rfl) (fun _ _ _ h => h) (Or.inl ⟨by rfl, fun w hS => by go_simp⟩) hHeld ?_
        simp only [Act.put, List.getElem_toArray, List.getElem_cons_zero, List.getElem_cons_succ, List.setIfInBounds_toArray, List.set_cons_zero, List.set_cons_succ]
        refine wpAnyH_take (i := 3) (v := .pointer (some ⟨lb, off + k * 33, none⟩)) rfl (by kernel_rfl) (by kernel_rfl) (by kernel_rfl) (fun _ _ _ h => h) (Or.inl ⟨by rfl, fun w hS => by go_simp⟩) hHeld ?_
        simp only [Act.put, List.getElem_toArray, List.getElem_cons_zero, List.getElem_cons_succ, List.setIfInBounds_toArray, List.set_cons_zero, List.set_cons_succ]
        refine wpAnyH_take (i := 4) (v := .agg (B KK)) rfl (by kernel_rfl) (by kernel_rfl) (by kernel_rfl) (fun _ _ _ h => h) (yieldsIf_load_mid rfl 32 (.tmp 17) rfl lb (off + k * 33) rfl (B KK).toList _ (fun w hS => rng_key (HRG.out _ (grow_trans HBW.out hS))) Tryz.underlying32 rfl HPK.out) hHeld ?_
        simp only [Act.put, List.getElem_toArray, List.getElem_cons_zero, List.getElem_cons_succ, List.setIfInBounds_toArray, List.set_cons_zero, List.set_cons_succ]
        refine wpAnyH_take (i := 5) (v := .agg (B K)) rfl (by kernel_rfl) (by kernel_rfl) (by kernel_rfl) (fun _ _ _ h => h) (yieldsIf_load_mid rfl 32 (.tmp 3) rfl b3 0 rfl (B K).toList _ (fun w hS => ((HB3.out.grow HBR.out).grow hS).range) Tryz.underlying32 rfl HPL.out) hHeld ?_
        simp only [Act.put, List.getElem_toArray, List.getElem_cons_zero, List.getElem_cons_succ, List.setIfInBounds_toArray, List.set_cons_zero, List.set_cons_succ]
        refine wpAnyH_take (i := 6) (v := .bool true) rfl (by kernel_rfl) (by kernel_rfl) (by kernel_rfl) (fun _ _ _ h => h) (Or.inl ⟨by rfl, fun w hS => by go_simp⟩) hHeld ?_
        simp only [Act.put, List.getElem_toArray, List.getElem_cons_zero, List.getElem_cons_succ, List.setIfInBounds_toArray, List.set_cons_zero, List.set_cons_succ]
        refine wpAnyH_done (by kernel_rfl) ?_ _
        have HHd := hidden hHeld
        have HBH := hidden (grow_trans HBW.out hHeld)
        have HBX := hidden (grow_trans HBR.out hHeld)
        clear hHeld
        go_wp2_with (first
          | ((with_reducible refine at_ldd 25 24 ?_); refine wpList_ldp _ rfl _ rfl lb (off + k * 33) KK (.slice ua ul uc) rfl (HRG.out _ HBH.out) HKL.out ?_; have HOA := hidden (ownsP_below (ownsP_below HO.out HHd.out) (grow_alloc _ (.cells (encP KK (.slice ua ul uc)).toArray 52))))
          | ((with_reducible refine at_bsd 26 ?_); refine wpList_bsp _ rfl _ rfl KK (.slice ua ul uc) rfl HKL.out ?_)
          | (at_builtin; refine wpList_appP _ rfl _ _ rfl w1.heap.size _ m (flatP its) HOA.out rfl _ KK (.slice ua ul uc) rfl (Blk.new _ _ _) HKL.out rfl (by omega) (Nat.le_trans HBX.out.size (by simp)) ?_; intro v5 w5 o5 g5; have HO5 := hidden o5; have HX5 := hidden (owR_below (grow_trans HBX.out (grow_alloc _ (.cells (encP KK (.slice ua ul uc)).toArray 52))) HOA.out (Nat.le_refl _) g5); clear o5 g5; obtain ⟨a5, c5, hv5⟩ := lst_slice (owR_lst HO5.out); subst hv5))
        have ho5 := HO5.out
        rw [← HW.out.1] at ho5
        exact ⟨⟨k + 1, m + 1, a5, c5, by omega, rfl, by go_num, by omega, HW.out.2.symm, ho5, HX5.out⟩, by simp [intOf]; exact mea_step k1⟩
    · obtain rfl : k = n := by omega
      have nlt : ¬ (k : Int) < (k : Int) := by omega
      rw [HNL.out] at HM HO
      have hm := HM.out
      have HP : Hid (P (.returned (.tuple #[.slice oa m oc, .bool (decide (m < k))])) wr) := by
        have h := HPost.out wr oa oc (by rw [← hm]; exact owR_base HO.out HQ1.out.size) HBW.out
        rw [← hm] at h
        exact h
      clear HIT HPost hm
      go_wp2_with fail
      exact HP.out

end Go.Proofs.YtpbmpmiicdpehabGreatDoor

/- node.bare, Check, is, as contracts. -/
namespace Go.Proofs.YtpbmpmiicdpehabGreatDoor
set_option maxRecDepth 20000
open Go.RowKit

/-- A node that may be. -/
def okN (k : Int) (a b c d : List Int) : Bool := decide ((k = 0 ∧ a = z32 ∧ b = z32 ∧ c = z32 ∧ d = z32) ∨ (k = 1 ∧ c = z32 ∧ d = z32) ∨ (k = 2 ∧ a = z32 ∧ b = z32))

theorem z_nd : Nd 0 z32 z32 z32 z32 := ⟨by omega, by omega, rfl, rfl, rfl, rfl, z32_bytes, z32_bytes, z32_bytes, z32_bytes⟩

def BarePost (k : Int) (a b c d : List Int) (w : World) (e : Ending) (w' : World) : Prop :=
  ∃ k' a' b' c' d', e = .returned (.agg (B (nd k' a' b' c' d'))) ∧ Nd k' a' b' c' d' ∧ okN k a b c d = decide (nd k a b c d = nd k' a' b' c' d') ∧ Below w.heap.size w w'

def okE (k : Int) (a b c d : List Int) : Int := if okN k a b c d = true then 0 else 2

end Go.Proofs.YtpbmpmiicdpehabGreatDoor
