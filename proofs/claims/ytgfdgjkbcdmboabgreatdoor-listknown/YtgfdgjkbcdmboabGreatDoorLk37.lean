/- A region that draws its order, some of whose operations (the writers, Ws) write what others ahead of them read: what is held (S) is asked for as long as no writer has come up. -/
import Derived.Test.YtgfdgjkbcdmboabGreatDoorLk21
import Derived.Test.YtgfdgjkbcdmboabGreatDoorLk32
import Derived.Test.YtgfdgjkbcdmboabGreatDoorLk36
import Derived.Test.YtgfdgjkbcdmboabGreatDoorLk29
namespace Go.Proofs.YtgfdgjkbcdmboabGreatDoor
set_option maxRecDepth 20000
open Go Go.RowKit

section
variable {P : Program} {ops : Array Oper} {Q : Exit → Act → World → Prop} {md : Region.Mode} {S : World → Prop} {Ws : List Nat}

/-- A writer has come up. -/
def wrote (Ws : List Nat) (listed : Array Bool) : Bool := Ws.any fun L => listed.getD L false
theorem wrote_set {listed : Array Bool} {i : Nat} (h : Ws.contains i = false) : wrote Ws (listed.setIfInBounds i true) = wrote Ws listed := by
  unfold wrote
  apply Bool.eq_iff_iff.2
  simp only [List.any_eq_true]
  have hne : ∀ L ∈ Ws, i ≠ L := fun L hL e => by
    subst e
    simp at h
    exact h hL
  constructor
  · rintro ⟨L, h1, h2⟩
    exact ⟨L, h1, by rwa [getD_set_ne false (hne L h1)] at h2⟩
  · rintro ⟨L, h1, h2⟩
    exact ⟨L, h1, by rwa [getD_set_ne false (hne L h1)]⟩
theorem wrote_not {listed : Array Bool} {i n : Nat} (hs : ShutL md ops listed) (hi : listed.getD i false = false) (hld : (Ws.all fun L => leads md ops i n L) = true) : wrote Ws listed = false := by
  unfold wrote
  rw [Bool.eq_false_iff]
  intro h
  obtain ⟨L, h1, h2⟩ := List.any_eq_true.1 h
  have h3 := List.all_eq_true.1 hld L h1
  cases ho : ops[L]? with
  | none =>
    cases n with
    | zero => simp [leads] at h3
    | succ n => unfold leads at h3; rw [ho] at h3; cases h3
  | some o => exact leads_on hs hi n L h3 o ho (hs L o ho h2)

def wpAnyW (P : Program) (md : Region.Mode) (ops : Array Oper) (Q : Exit → Act → World → Prop) (S : World → Prop) (Ws : List Nat) : Nat → Array Bool → Act → World → Prop
  | 0, listed, a, w => Region.ready md ops listed = [] ∧ Q .normal a w
  | fuel + 1, listed, a, w =>
    (Region.ready md ops listed = [] → Q .normal a w) ∧
    ∀ i ∈ Region.ready md ops listed, wpOp P ops Q i (fun a' w' => (wrote Ws (listed.setIfInBounds i true) = true ∨ S w') ∧ wpAnyW P md ops Q S Ws fuel (listed.setIfInBounds i true) a' w') a w

theorem wpAny_of_wrote : ∀ (fuel : Nat) (listed : Array Bool) (a : Act) (w : World), wpAnyW P md ops Q S Ws fuel listed a w → wpAny P md ops Q fuel listed a w
  | 0, _, _, _, h => h
  | fuel + 1, _, _, _, h => ⟨h.1, fun i hi => wpOp_mono (fun a' w' h' => wpAny_of_wrote fuel _ a' w' h'.2) (h.2 i hi)⟩

theorem unlisted {listed : Array Bool} {i : Nat} (hr : i ∈ Region.ready md ops listed) : listed.getD i false = false := by
  have h0 := (mem_ready.1 hr).1
  rcases Nat.lt_or_ge i listed.size with h' | h'
  · simpa [h'] using h0
  · simp [Array.getElem?_eq_none h']

/-- One that reads what is held. -/
theorem wpAnyW_first {i n : Nat} {oi : Oper} {v : Value} (hi : ops[i]? = some oi) (hsel : ∀ (j : Nat) (o : Oper) cs b, ops[j]? = some o → o.op ≠ .select cs b)
    (hQ : ∀ c a w, Q (.panic c) (a.put oi.dst v) w → Q (.panic c) a w) (hld : (Ws.all fun L => leads md ops i n L) = true) (hiw : Ws.contains i = false) :
    ∀ (fuel : Nat) (listed : Array Bool) (a : Act) (w : World), ShutL md ops listed →
      (∀ j oj, ops[j]? = some oj → j ≠ i → listed.getD j true = false → (∀ e ∈ oj.after, Region.binds md e = true → e.on ≠ i) → oi.apart ops oj = true) →
      i ∈ Region.ready md ops listed → YieldsIf P ops S oi v a → S w →
      wpAnyW P md ops Q S Ws fuel (listed.setIfInBounds i true) (a.put oi.dst v) w → wpAnyW P md ops Q S Ws (fuel + 1) listed a w := by
  intro fuel
  induction fuel with
  | zero =>
    intro listed a w _ _ hr hy hS H
    refine ⟨fun h => (by rw [h] at hr; cases hr), fun j hj => ?_⟩
    by_cases hji : j = i
    · subst hji; exact hy.wpOp hi hS ⟨.inr hS, H⟩
    · have := ready_mono hj hji
      rw [H.1] at this
      cases this
  | succ fuel ih =>
    intro listed a w hsh hfree hr hy hS H
    refine ⟨fun h => (by rw [h] at hr; cases hr), fun j hj => ?_⟩
    by_cases hji : j = i
    · subst hji; exact hy.wpOp hi hS ⟨.inr hS, H⟩
    · have h1 := H.2 j (ready_mono hj hji)
      obtain ⟨hjun, oj, hoj, hall⟩ := mem_ready.1 hj
      have hi0 := unlisted hr
      have hnw : wrote Ws ((listed.setIfInBounds i true).setIfInBounds j true) = false := by
        rw [Array.setIfInBounds_comm _ _ (Ne.symm hji), wrote_set hiw]
        refine wrote_not (hsh.step hj) ?_ hld
        rw [getD_set_ne false hji]
        exact hi0
      have hnot : ∀ e ∈ oj.after, Region.binds md e = true → e.on ≠ i := fun e he hb heq => by
        have h1 := hall e he hb
        rw [heq, hi0] at h1
        cases h1
      have h2 := wpOp_putIf hoj (hfree j oj hoj hji hjun hnot) (fun cs b => hsel i oi cs b hi) (fun cs b => hsel j oj cs b hoj) hQ hy h1
      have hfree' : ∀ k ok, ops[k]? = some ok → k ≠ i → (listed.setIfInBounds j true).getD k true = false →
          (∀ e ∈ ok.after, Region.binds md e = true → e.on ≠ i) → oi.apart ops ok = true := fun k ok hk hki hun hno => by
        refine hfree k ok hk hki ?_ hno
        by_cases hjk : j = k
        · subst hjk; exact hjun
        · rw [getD_set_ne true hjk] at hun; exact hun
      refine wpOp_mono (fun a' w' h3 => ?_) h2
      have hS' : S w' := h3.2.1.resolve_left (by rw [hnw]; simp)
      refine ⟨.inr hS', ih (listed.setIfInBounds j true) a' w' (hsh.step hj) hfree' (ready_mono hr (Ne.symm hji)) h3.1 hS' ?_⟩
      rw [Array.setIfInBounds_comm _ _ hji]
      exact h3.2.2

/-- One that yields its value in whatever world. -/
theorem wpAnyW_pure {i : Nat} {oi : Oper} {v : Value} (hi : ops[i]? = some oi) (hsel : ∀ (j : Nat) (o : Oper) cs b, ops[j]? = some o → o.op ≠ .select cs b)
    (hQ : ∀ c a w, Q (.panic c) (a.put oi.dst v) w → Q (.panic c) a w) (hiw : Ws.contains i = false) :
    ∀ (fuel : Nat) (listed : Array Bool) (a : Act) (w : World),
      (∀ j oj, ops[j]? = some oj → j ≠ i → listed.getD j true = false → (∀ e ∈ oj.after, Region.binds md e = true → e.on ≠ i) → oi.apart ops oj = true) →
      i ∈ Region.ready md ops listed → YieldsIf P ops (fun _ => True) oi v a → (wrote Ws listed = true ∨ S w) →
      wpAnyW P md ops Q S Ws fuel (listed.setIfInBounds i true) (a.put oi.dst v) w → wpAnyW P md ops Q S Ws (fuel + 1) listed a w := by
  intro fuel
  induction fuel with
  | zero =>
    intro listed a w _ hr hy hS H
    refine ⟨fun h => (by rw [h] at hr; cases hr), fun j hj => ?_⟩
    by_cases hji : j = i
    · subst hji; exact hy.wpOp hi trivial ⟨by rw [wrote_set hiw]; exact hS, H⟩
    · have := ready_mono hj hji
      rw [H.1] at this
      cases this
  | succ fuel ih =>
    intro listed a w hfree hr hy hS H
    refine ⟨fun h => (by rw [h] at hr; cases hr), fun j hj => ?_⟩
    by_cases hji : j = i
    · subst hji; exact hy.wpOp hi trivial ⟨by rw [wrote_set hiw]; exact hS, H⟩
    · have h1 := H.2 j (ready_mono hj hji)
      obtain ⟨hjun, oj, hoj, hall⟩ := mem_ready.1 hj
      have hi0 := unlisted hr
      have hnot : ∀ e ∈ oj.after, Region.binds md e = true → e.on ≠ i := fun e he hb heq => by
        have h1 := hall e he hb
        rw [heq, hi0] at h1
        cases h1
      have h2 := wpOp_putIf hoj (hfree j oj hoj hji hjun hnot) (fun cs b => hsel i oi cs b hi) (fun cs b => hsel j oj cs b hoj) hQ hy h1
      have hfree' : ∀ k ok, ops[k]? = some ok → k ≠ i → (listed.setIfInBounds j true).getD k true = false →
          (∀ e ∈ ok.after, Region.binds md e = true → e.on ≠ i) → oi.apart ops ok = true := fun k ok hk hki hun hno => by
        refine hfree k ok hk hki ?_ hno
        by_cases hjk : j = k
        · subst hjk; exact hjun
        · rw [getD_set_ne true hjk] at hun; exact hun
      refine wpOp_mono (fun a' w' h3 => ?_) h2
      have hS' : wrote Ws (listed.setIfInBounds j true) = true ∨ S w' := by
        have := h3.2.1
        rwa [Array.setIfInBounds_comm _ _ (Ne.symm hji), wrote_set hiw] at this
      refine ⟨hS', ih (listed.setIfInBounds j true) a' w' hfree' (ready_mono hr (Ne.symm hji)) h3.1 hS' ?_⟩
      rw [Array.setIfInBounds_comm _ _ hji]
      exact h3.2.2

theorem wpAnyW_take {i : Nat} {oi : Oper} {v : Value} {fuel : Nat} {listed : Array Bool} {a : Act} {w : World} (hi : ops[i]? = some oi)
    (hs : Region.noSelect ops = true) (hf : Region.free md ops listed i = true) (hr : (Region.ready md ops listed).contains i = true) (hld : (Ws.all fun L => leads md ops i 40 L) = true) (hiw : Ws.contains i = false) (hsh : shutB md ops listed = true)
    (hQ : ∀ c a w, Q (.panic c) (a.put oi.dst v) w → Q (.panic c) a w) (hy : YieldsIf P ops S oi v a) (hS : S w)
    (h : wpAnyW P md ops Q S Ws fuel (listed.setIfInBounds i true) (a.put oi.dst v) w) : wpAnyW P md ops Q S Ws (fuel + 1) listed a w :=
  wpAnyW_first hi (Region.noSelect_spec hs) hQ hld hiw fuel listed a w (shutL_of hsh) (Region.free_spec hi hf) (by simpa using hr) hy hS h
theorem wpAnyW_take0 {i : Nat} {oi : Oper} {v : Value} {fuel : Nat} {listed : Array Bool} {a : Act} {w : World} (hi : ops[i]? = some oi)
    (hs : Region.noSelect ops = true) (hf : Region.free md ops listed i = true) (hr : (Region.ready md ops listed).contains i = true) (hiw : Ws.contains i = false)
    (hQ : ∀ c a w, Q (.panic c) (a.put oi.dst v) w → Q (.panic c) a w) (hy : YieldsIf P ops (fun _ => True) oi v a) (hS : wrote Ws listed = true ∨ S w)
    (h : wpAnyW P md ops Q S Ws fuel (listed.setIfInBounds i true) (a.put oi.dst v) w) : wpAnyW P md ops Q S Ws (fuel + 1) listed a w :=
  wpAnyW_pure hi (Region.noSelect_spec hs) hQ hiw fuel listed a w (Region.free_spec hi hf) (by simpa using hr) hy hS h

/-- A writer, or one that comes up behind a writer: nothing of S is shown. -/
theorem wpAnyW_one {fuel : Nat} {listed : Array Bool} {a : Act} {w : World} {i : Nat} {o : Oper} (ho : ops[i]? = some o) (hr : Region.ready md ops listed = [i]) (hw : wrote Ws (listed.setIfInBounds i true) = true)
    (h : ∀ K' : Act → World → Prop, Shut (∀ a w, wpAnyW P md ops Q S Ws fuel (listed.setIfInBounds i true) a w → K' a w) → if Region.wanted o (yielded ops a.tmps) = true then Oper.wp P o a w K' Q else K' (a.put o.dst undef) w) :
    wpAnyW P md ops Q S Ws (fuel + 1) listed a w := by
  refine ⟨fun h0 => ?_, fun j hj => ?_⟩
  · rw [hr] at h0
    cases h0
  · rw [hr] at hj
    obtain rfl : j = i := by simpa using hj
    exact wpOp_step ho (fun K' hK => h K' (fun a w hW => hK a w ⟨.inl hw, hW⟩))

theorem wpAnyW_done {fuel : Nat} {listed : Array Bool} {a : Act} {w : World} (he : Region.ready md ops listed = []) (h : Q .normal a w) : wpAnyW P md ops Q S Ws fuel listed a w := by
  cases fuel with
  | zero => exact ⟨he, h⟩
  | succ n => exact ⟨fun _ => h, by rw [he]; simp⟩

theorem wp_region_wrote {id : Nat} {a : Act} {w : World} (Ws : List Nat) (hm : P.follows .mixedOrders = true) (hS : S w.drew)
    (h : S w.drew → wpAnyW P .any ops Q S Ws ops.size (Array.replicate ops.size false) a w.drew) : (Code.region id ops true).wp P Q a w :=
  wp_region_any hm (wpAny_of_wrote _ _ _ _ (h hS))

end
end Go.Proofs.YtgfdgjkbcdmboabGreatDoor

/- A store in which entries were put one behind the other (the law's 'filled'), as a contract. -/
namespace Go.Proofs.YtgfdgjkbcdmboabGreatDoor
set_option maxRecDepth 20000
open Go.RowKit

/-- A store whose root is the map of these entries. -/
structure FlI (cs : List (Nat × Ce)) (k root : Nat) (T : Tre) (l : List Ent) : Prop where
  rt : Rt cs root T
  ents : T.ents.Perm l
  own : ∀ i, own cs [] i ≤ k
  noc : noc cs ≤ 257 * k

theorem fl_step {cs cs' : List (Nat × Ce)} {fr fr' : List Nat} {k root top : Nat} {T T' : Tre} {l : List Ent} {K bs : List Int} {ss : List Nat} (f : FlI cs k root T l) (p : PaIs cs fr T root K bs ss top cs' fr' T') (hs : ss.length ≤ 256) (hn : ∀ e ∈ l, e.1 ≠ K) : FlI cs' (k + 1) top T' (l ++ [(K, bs)]) := by
  have hc : costN T K bs ss ≤ 257 := by
    unfold costN
    split <;> omega
  refine ⟨p.rt, ?_, fun i => ?_, by have := p.noc; have := f.noc; omega⟩
  · refine p.ents.trans ?_
    have h1 : T.ents.filter (fun e => !(e.1 == K)) = T.ents := List.filter_eq_self.2 (fun e he => by
      have := hn e (f.ents.mem_iff.1 he)
      simpa using this)
    unfold upE
    rw [h1]
    exact ((f.ents.cons _).trans (List.perm_append_singleton _ _).symm)
  · have h1 := p.own i
    have h2 := f.own i
    split at h1 <;> split at h1 <;> omega

set_option maxRecDepth 100000 in
set_option maxHeartbeats 4000000 in
theorem filled_any {w : World} {a : Option Addr} {c : Nat} {V : Nat → Value} {es : List Ent} (hP : PrAt w (.slice a es.length c) V es) (h16 : es.length ≤ 16) (hap : es.Pairwise fun x y => x.1 ≠ y.1) (hbs : ∀ e ∈ es, e.2.length ≤ 1024) (hL : Laid w) :
    Calls Tryz.prog 29 #[.slice a es.length c] w fun e w' => ∃ g gs cs fr root T, e = .returned (.tuple #[.pointer (some ⟨g, 0, none⟩), .int .i64 ((root : Nat) : Int), .bool true]) ∧ Hs w [] w' g gs 5160 cs fr ∧ FlI cs es.length root T es := by
  have HNW : Hid (Calls Tryz.prog 64 #[.int .i64 5160] w fun e w' => ∃ g gs, e = .returned (.tuple #[.pointer (some ⟨g, 0, none⟩), .int .i64 0]) ∧ Hs w [] w' g gs 5160 [] []) := hs_new 5160 w (by omega) (by omega)
  obtain ⟨n, hn⟩ : ∃ n, n = es.length := ⟨_, rfl⟩
  have HGet : Hid (∀ k, k < n → ∃ lg lo ua uc K bs, a = some ⟨lg, lo, none⟩ ∧ es[k]? = some (K, bs) ∧ w.rangeAt lg (lo + k * 33) (encP K (.slice ua bs.length uc)) ∧ Key K ∧ Reads w (.slice ua bs.length uc) bs ∧ bs.length ≤ 1024 ∧ ∀ e ∈ es.take k, e.1 ≠ K) := fun k hk => by
    rw [hn] at hk
    obtain ⟨a', c', e, _, h2, h3⟩ := hP
    injection e with e1 _ _
    subst e1
    obtain ⟨g, off, ea, hr⟩ := h2 (by omega)
    have h4 := hr k hk
    obtain ⟨hk1, hk2⟩ := h3 k hk
    rw [List.getD_eq_getElem?_getD, List.getElem?_eq_getElem hk, Option.getD_some] at h4 hk1 hk2
    obtain ⟨ua, uc, eV⟩ : ∃ ua uc, V k = .slice ua es[k].2.length uc := by
      obtain ⟨x, y, e, _⟩ := hk2
      exact ⟨x, y, e⟩
    rw [eV] at h4 hk2
    refine ⟨g, off, ua, uc, es[k].1, es[k].2, ea, by rw [List.getElem?_eq_getElem hk], h4, hk1, hk2, hbs _ (List.getElem_mem hk), fun e he => ?_⟩
    obtain ⟨j, hj, rfl⟩ := List.getElem_of_mem he
    rw [List.length_take] at hj
    rw [List.getElem_take]
    exact List.pairwise_iff_getElem.1 hap j k (by omega) hk (by omega)
  have HLD : Hid (∀ w', Below w.heap.size w w' → Laid w') := fun w' hb => hL.grow hb
  have H16 : Hid (n ≤ 16) := by rw [hn]; exact h16
  have HNE := hidden hn
  rw [← hn]
  clear hP h16 hap hbs hL hn
  go_enter Tryz.func29, Tryz.ntmps29
  go_wp2_with (go_at_call 64; refine HNW.out.mono ?_; rintro e w1 ⟨g, gs, rfl, hH⟩; have HH := hidden hH; clear hH)
  go_loopw [6, 7, 8] (fun ev rv iv wr => ∃ (k root : Nat) (cs : List (Nat × Ce)) (fr : List Nat) (T : Tre), k ≤ n ∧ ev = .int .i64 0 ∧ rv = .int .i64 (root : Int) ∧ iv = .int .i64 (k : Int) ∧ Hid (Hs w [] wr g gs 5160 cs fr) ∧ Hid (FlI cs k root T (es.take k))) (fun _ _ iv _ => n - (intOf iv).toNat)
  case atStart => exact ⟨0, 0, [], [], .emp, Nat.zero_le _, rfl, rfl, rfl, HH, ⟨Rt.zero [], List.Perm.refl _, fun i => by simp [Go.Proofs.YtgfdgjkbcdmboabGreatDoor.own, cc], by show 0 ≤ _; omega⟩⟩
  case round =>
    clear HH HNW
    obtain ⟨k, root, cs, fr, T, hk, rfl, rfl, rfl, hH, hF⟩ := hrel
    have hk16 := H16.out
    have hwk : wrap64 ((k : Int) + 1) = ((k + 1 : Nat) : Int) := by rw [Go.IntWalk.wrap64_in _ (by omega)]; rfl
    by_cases hlt : k < n
    · obtain ⟨lg, lo, ua, uc, K, bs, rfl, hek, hrg, hK, hrd, hb4, hnk⟩ := HGet.out k hlt
      have hlow := hH.out.low
      have HR1 : Hid (∀ w', Below wr.heap.size wr w' → w'.rangeAt lg (lo + k * 33) (B K).toList) := fun w' hb j v hv => rng_grow (rng_grow hrg hlow) hb j v (by
        rw [B_toList] at hv
        have hj : j < K.length := by
          have := (List.getElem?_eq_some_iff.1 hv).1
          simpa using this
        rw [encP, List.getElem?_append_left (by simpa using hj)]
        exact hv)
      have HR2 : Hid (∀ w', Below wr.heap.size wr w' → w'.cell? ⟨lg, lo + k * 33 + 32, none⟩ = some (.slice ua bs.length uc)) := fun w' hb => rng_grow (rng_grow hrg hlow) hb 32 _ (by
        rw [encP, List.getElem?_append_right (by simp [hK.1])]
        simp [hK.1])
      have HKL := hidden (pth_ln K hK.1)
      have HPT : Hid (∀ w', Below wr.heap.size wr w' → Calls Tryz.prog 65 #[.pointer (some ⟨g, 0, none⟩), .int .i64 (root : Int), .agg (B K), .slice ua bs.length uc] w' fun e w'' => ∃ (top : Nat) (cs' : List (Nat × Ce)) (fr' : List Nat) (T' : Tre), e = .returned (.tuple #[.int .i64 (top : Int), .int .i64 0]) ∧ FlI cs' (k + 1) top T' (es.take (k + 1)) ∧ Hs w [] w'' g gs 5160 cs' fr') := fun w' hb => by
        obtain ⟨ss, b1, b2⟩ := bes_ex hH.out.2 K hK hF.out.rt.tree hF.out.rt.dp
        refine (put_any (hH.out.grow hb) hF.out.rt hK (kq_nil (fun w'' hb'' => hrd.grow hb'')) (kq_nil HLD.out) hb4 (fun i => by have := hF.out.own i; omega) (by have := hF.out.noc; omega) b1).mono ?_
        rintro e w'' ⟨top, cs', fr', T', rfl, p, hH'⟩
        refine ⟨top, cs', fr', T', rfl, ?_, hH'⟩
        have := fl_step hF.out p b2.len hnk
        rw [List.take_add_one, hek]
        exact this
      have i1 : (k : Int) < (n : Int) := by omega
      have i0 : (0 : Int) ≤ (k : Int) := by omega
      obtain ⟨y, hy⟩ : ∃ y : Int, y = (root : Int) := ⟨_, rfl⟩
      rw [← hy] at HPT
      rw [← hy]
      clear hek hrg hK hrd hb4 hnk hlow hH hF hy
      go_wp2_with fail
      refine wp_region_wrote (S := fun w' => Below wr.heap.size wr w') [12] (by kernel_rfl) (below_drewN (Below.refl _ _) 1) (fun hHeld => ?_)
      refine wpAnyW_take0 (i := 0) (v := .pointer (some ⟨g, 0, none⟩)) rfl (by kernel_rfl) (by kernel_rfl) (by kernel_rfl) (by kernel_rfl) (fun _ _ _ h => h) (Or.inl ⟨by rfl, fun w hS => by go_simp⟩) (.inr hHeld) ?_
      simp only [Act.put, List.getElem_toArray, List.getElem_cons_zero, List.setIfInBounds_toArray, List.set_cons_zero, List.set_cons_succ]
      refine wpAnyW_take0 (i := 1) (v := .int .i64 y) rfl (by kernel_rfl) (by kernel_rfl) (by kernel_rfl) (by kernel_rfl) (fun _ _ _ h => h) (Or.inl ⟨by rfl, fun w hS => by go_simp⟩) (.inr hHeld) ?_
      simp only [Act.put, List.getElem_toArray, List.getElem_cons_zero, List.getElem_cons_succ, List.setIfInBounds_toArray, List.set_cons_zero, List.set_cons_succ]
      refine wpAnyW_take0 (i := 2) (v := .slice (some ⟨lg, lo, none⟩) n c) rfl (by kernel_rfl) (by kernel_rfl) (by kernel_rfl) (by kernel_rfl) (fun _ _ _ h => h) (Or.inl ⟨by rfl, fun w hS => by go_simp⟩) (.inr hHeld) ?_
      simp only [Act.put, List.getElem_toArray, List.getElem_cons_zero, List.getElem_cons_succ, List.setIfInBounds_toArray, List.set_cons_zero, List.set_cons_succ]
      refine wpAnyW_take0 (i := 3) (v := .int .i64 (k : Int)) rfl (by kernel_rfl) (by kernel_rfl) (by kernel_rfl) (by kernel_rfl) (fun _ _ _ h => h) (Or.inl ⟨by rfl, fun w hS => by go_simp⟩) (.inr hHeld) ?_
      simp only [Act.put, List.getElem_toArray, List.getElem_cons_zero, List.getElem_cons_succ, List.setIfInBounds_toArray, List.set_cons_zero, List.set_cons_succ]
      refine wpAnyW_take0 (i := 4) (v := .pointer (some ⟨lg, lo + k * 33, none⟩)) rfl (by kernel_rfl) (by kernel_rfl) (by kernel_rfl) (by kernel_rfl) (fun _ _ _ h => h) (Or.inl ⟨by rfl, fun w hS => by go_simp⟩) (.inr hHeld) ?_
      simp only [Act.put, List.getElem_toArray, List.getElem_cons_zero, List.getElem_cons_succ, List.setIfInBounds_toArray, List.set_cons_zero, List.set_cons_succ]
      refine wpAnyW_take0 (i := 5) (v := .pointer (some ⟨lg, lo + k * 33, none⟩)) rfl (by kernel_rfl) (by kernel_rfl) (by kernel_rfl) (by kernel_rfl) (fun _ _ _ h => h) (Or.inl ⟨by rfl, fun w hS => by go_simp⟩) (.inr hHeld) ?_
      simp only [Act.put, List.getElem_toArray, List.getElem_cons_zero, List.getElem_cons_succ, List.setIfInBounds_toArray, List.set_cons_zero, List.set_cons_succ]
      refine wpAnyW_take (i := 6) (v := .agg (B K)) rfl (by kernel_rfl) (by kernel_rfl) (by kernel_rfl) (by kernel_rfl) (by kernel_rfl) (by kernel_rfl) (fun _ _ _ h => h) (yieldsIf_load_mid rfl 24 (.tmp 29) rfl lg (lo + k * 33) rfl (B K).toList _ (fun w hS => HR1.out _ hS) Tryz.underlying24 rfl HKL.out) hHeld ?_
      simp only [Act.put, List.getElem_toArray, List.getElem_cons_zero, List.getElem_cons_succ, List.setIfInBounds_toArray, List.set_cons_zero, List.set_cons_succ]
      refine wpAnyW_take0 (i := 7) (v := .slice (some ⟨lg, lo, none⟩) n c) rfl (by kernel_rfl) (by kernel_rfl) (by kernel_rfl) (by kernel_rfl) (fun _ _ _ h => h) (Or.inl ⟨by rfl, fun w hS => by go_simp⟩) (.inr hHeld) ?_
      simp only [Act.put, List.getElem_toArray, List.getElem_cons_zero, List.getElem_cons_succ, List.setIfInBounds_toArray, List.set_cons_zero, List.set_cons_succ]
      refine wpAnyW_take0 (i := 8) (v := .int .i64 (k : Int)) rfl (by kernel_rfl) (by kernel_rfl) (by kernel_rfl) (by kernel_rfl) (fun _ _ _ h => h) (Or.inl ⟨by rfl, fun w hS => by go_simp⟩) (.inr hHeld) ?_
      simp only [Act.put, List.getElem_toArray, List.getElem_cons_zero, List.getElem_cons_succ, List.setIfInBounds_toArray, List.set_cons_zero, List.set_cons_succ]
      refine wpAnyW_take0 (i := 9) (v := .pointer (some ⟨lg, lo + k * 33, none⟩)) rfl (by kernel_rfl) (by kernel_rfl) (by kernel_rfl) (by kernel_rfl) (fun _ _ _ h => h) (Or.inl ⟨by rfl, fun w hS => by go_simp⟩) (.inr hHeld) ?_
      simp only [Act.put, List.getElem_toArray, List.getElem_cons_zero, List.getElem_cons_succ, List.setIfInBounds_toArray, List.set_cons_zero, List.set_cons_succ]
      refine wpAnyW_take0 (i := 10) (v := .pointer (some ⟨lg, lo + k * 33 + 32, none⟩)) rfl (by kernel_rfl) (by kernel_rfl) (by kernel_rfl) (by kernel_rfl) (fun _ _ _ h => h) (Or.inl ⟨by rfl, fun w hS => by go_simp⟩) (.inr hHeld) ?_
      simp only [Act.put, List.getElem_toArray, List.getElem_cons_zero, List.getElem_cons_succ, List.setIfInBounds_toArray, List.set_cons_zero, List.set_cons_succ]
      refine wpAnyW_take (i := 11) (v := .slice ua bs.length uc) rfl (by kernel_rfl) (by kernel_rfl) (by kernel_rfl) (by kernel_rfl) (by kernel_rfl) (by kernel_rfl) (fun _ _ _ h => h) (Or.inl ⟨by rfl, fun w hS => by (have q1 := HR2.out _ hS; go_simp)⟩) hHeld ?_
      simp only [Act.put, List.getElem_toArray, List.getElem_cons_zero, List.getElem_cons_succ, List.setIfInBounds_toArray, List.set_cons_zero, List.set_cons_succ]
      refine wpAnyW_one (i := 12) rfl (by kernel_rfl) (by kernel_rfl) (fun KQ hK => ?_)
      go_simp
      refine (HPT.out _ hHeld).mono ?_
      rintro e z ⟨top, cs', fr', T', rfl, hz⟩
      have HZ := hidden hz
      clear hz
      refine hK.out _ _ ?_
      clear hK KQ
      refine wpAnyW_take0 (i := 13) (v := .tuple #[.int .i64 (top : Int), .int .i64 0]) rfl (by kernel_rfl) (by kernel_rfl) (by kernel_rfl) (by kernel_rfl) (fun _ _ _ h => h) (Or.inl ⟨by rfl, fun w hS => by go_simp⟩) (.inl (by kernel_rfl)) ?_
      simp only [Act.put, List.getElem_toArray, List.getElem_cons_zero, List.getElem_cons_succ, List.setIfInBounds_toArray, List.set_cons_zero, List.set_cons_succ]
      refine wpAnyW_take0 (i := 14) (v := .int .i64 (top : Int)) rfl (by kernel_rfl) (by kernel_rfl) (by kernel_rfl) (by kernel_rfl) (fun _ _ _ h => h) (Or.inl ⟨by rfl, fun w hS => by go_simp⟩) (.inl (by kernel_rfl)) ?_
      simp only [Act.put, List.getElem_toArray, List.getElem_cons_zero, List.getElem_cons_succ, List.setIfInBounds_toArray, List.set_cons_zero, List.set_cons_succ]
      refine wpAnyW_take0 (i := 15) (v := .int .i64 0) rfl (by kernel_rfl) (by kernel_rfl) (by kernel_rfl) (by kernel_rfl) (fun _ _ _ h => h) (Or.inl ⟨by rfl, fun w hS => by go_simp⟩) (.inl (by kernel_rfl)) ?_
      simp only [Act.put, List.getElem_toArray, List.getElem_cons_zero, List.getElem_cons_succ, List.setIfInBounds_toArray, List.set_cons_zero, List.set_cons_succ]
      refine wpAnyW_take0 (i := 16) (v := .int .i64 (top : Int)) rfl (by kernel_rfl) (by kernel_rfl) (by kernel_rfl) (by kernel_rfl) (fun _ _ _ h => h) (Or.inl ⟨by rfl, fun w hS => by go_simp⟩) (.inl (by kernel_rfl)) ?_
      simp only [Act.put, List.getElem_toArray, List.getElem_cons_zero, List.getElem_cons_succ, List.setIfInBounds_toArray, List.set_cons_zero, List.set_cons_succ]
      refine wpAnyW_take0 (i := 17) (v := .int .i64 0) rfl (by kernel_rfl) (by kernel_rfl) (by kernel_rfl) (by kernel_rfl) (fun _ _ _ h => h) (Or.inl ⟨by rfl, fun w hS => by go_simp⟩) (.inl (by kernel_rfl)) ?_
      simp only [Act.put, List.getElem_toArray, List.getElem_cons_zero, List.getElem_cons_succ, List.setIfInBounds_toArray, List.set_cons_zero, List.set_cons_succ]
      refine wpAnyW_done (by kernel_rfl) ?_
      go_wp2
      exact ⟨⟨k + 1, top, cs', fr', T', by omega, rfl, rfl, by first | rfl | go_num, HZ.out.2, HZ.out.1⟩, by simp [intOf]; omega⟩
    · obtain rfl : k = n := by omega
      have HF : Hid (FlI cs k root T es) := by
        have := hF.out
        rw [List.take_of_length_le (by rw [← HNE.out]; omega)] at this
        exact this
      go_wp2
      go_ret3
      exact ⟨g, gs, cs, fr, root, T, rfl, hH.out, HF.out⟩

/-- Its root may be listed. -/
theorem FlI.lir {w w' : World} {g gs k root : Nat} {cs : List (Nat × Ce)} {fr : List Nat} {T : Tre} {l : List Ent} (f : FlI cs k root T l) (hH : Hs w [] w' g gs 5160 cs fr) (hl : l.length ≤ 1000) : LiR w' (some ⟨g, 0, none⟩) cs root T := by
  have h1 : T.ents.length = l.length := f.ents.length_eq
  have h2 := num_le hH.2 T root f.rt.tree
  refine ⟨hH.vw, ⟨[], hH.2⟩, f.rt.tree, f.rt.root, ?_, by omega⟩
  have h3 : T.ents.length * (257 - dq cs root) ≤ 1000 * 257 := Nat.mul_le_mul (by omega) (by omega)
  omega

end Go.Proofs.YtgfdgjkbcdmboabGreatDoor

/- A range over a function whose iterator tells what it hands out, and whose loop variable may lie in a block of its own: the law for the statement. -/
namespace Go.Proofs.YtgfdgjkbcdmboabGreatDoor
set_option maxRecDepth 20000
open Go.RowKit

/-! ### An iterator that tells what it hands out, over what lay there; a loop variable that lies in a block of its own -/

/-- An iterator that but reads what lay below n₀, and lays new blocks; X: what is known of an element when it comes. -/
def SeqY {α : Type} (F : Fence) (n : Nat) (P : Program) (g : Nat) (lb : Array Value) (encs : α → Array Value) (X : List α → α → World → Prop) (n₀ : Nat) (S Sp : List α → Prop) (N : Nat) (w : World) : Prop :=
  ∀ (l : Nat) (J Jx : List α → World → Prop) (W : World), Below w.heap.size w W →
    (∀ s A B, J s A → Below A.heap.size A B → J s B) →
    (∀ pre x A, J pre A → X pre x A → pre.length < N → YieldAt F (n - 1) P l (encs x) A fun e B =>
      (e = .returned (.bool true) ∧ J (pre ++ [x]) B ∧ Below n₀ A B) ∨ (e = .returned (.bool false) ∧ Jx (pre ++ [x]) B)) →
    J [] W →
    CallsIn F n P g (#[.func (.yield l) #[] #[]] ++ lb) W fun e B => (∃ v, e = .returned v) ∧ ((∃ xs, S xs ∧ J xs B) ∨ (∃ pre, Sp pre ∧ Jx pre B))

/-- How a round may be left. -/
def outY {α : Type} (b n₀ : Nat) (I : List α → World → Prop) (Ix : Code → List α → World → Prop) (xs : List α) (A : World) : Exit → Act → World → Prop
  | .normal, _, B => KeepsFrom b A B ∧ Below n₀ A B ∧ I xs B
  | .ret, _, B => KeepsFrom b A B ∧ Ix .ret xs B
  | .exit i, _, B => KeepsFrom b A B ∧ Ix (.exit i) xs B
  | .goto t, _, B => KeepsFrom b A B ∧ Ix (.goto t) xs B
  | .panic _, _, _ => False
  | .outgrown, _, _ => False

set_option maxHeartbeats 2000000 in
/-- The statement. -/
theorem wpIn_rangeY {F : Fence} {n : Nat} {P : Program} {α : Type} {g : Operand} {ps : Array Tmp} {assign body : Code} {Q : Exit → Act → World → Prop} {a : Act} {w : World}
    (hro : F.round = none) (h1 : 1 ≤ n) {gf : Nat} {lb : Array Value} (hg : a.eval g = .func (.func gf) #[] lb) (hFg : F.fn gf) (eg : ∀ args w, (callFunc gf args).run P w = .ok (.enter gf args) w)
    {encs : α → Array Value} {X : List α → α → World → Prop} {n₀ : Nat} {S Sp : List α → Prop} {N : Nat} {w0 : World} (hseq : SeqY F (n - 1) P gf lb encs X n₀ S Sp N w0) (hn₀ : n₀ ≤ w.heap.size) (hb0 : Below w0.heap.size w0 w) (hps : ∀ x, (encs x).size = ps.size)
    (I : List α → World → Prop) (Ix : Code → List α → World → Prop) (Bx : List α → α → Act → World → Prop) (hIg : ∀ s A B, I s A → Below A.heap.size A B → I s B) (hI : OwnFrom w.heap.size I) (hIx : ∀ c, OwnFrom w.heap.size (Ix c)) (hBx : ∀ pre x a', OwnFrom w.heap.size (fun (_ : Unit) W => Bx pre x a' W)) (h0 : I [] w)
    (hassign : ∀ (l : Nat) (pre : List α) (x : α) (A : World), I pre A → X pre x A → pre.length < N →
      assign.wpIn (F.inRound l) (n - 1 - 1) P (Exit.then (fun a' A' => KeepsFrom w.heap.size A A' ∧ Below n₀ A A' ∧ Bx pre x a' A') (fun _ _ _ => False)) { tmps := (ps.zip (encs x)).foldl (fun t (p, v) => t.setIfInBounds p v) a.tmps, defers := [] } A)
    (hbody : ∀ (l : Nat) (pre : List α) (x : α) (a' : Act) (A : World), Bx pre x a' A → body.wpIn (F.inRound l) (n - 1 - 1) P (outY w.heap.size n₀ I Ix (pre ++ [x]) A) a' A)
    (hdone : ∀ (D : Nat) (xs : List α) (W : World), w.heap.size ≤ D → S xs → I xs W → W.heap[D]? = some (.deferred (some [])) → Q .normal { a with defers := { target := .collected D, args := #[] } :: a.defers } W)
    (hstop : ∀ (D : Nat) (c : Code) (pre : List α) (W : World), w.heap.size ≤ D → Sp pre → Ix c pre W → W.heap[D]? = some (.deferred (some [])) → c.wpIn F n P Q { a with defers := { target := .collected D, args := #[] } :: a.defers } W) :
    (Code.rangeFunc g ps assign body).wpIn F n P Q a w := by
  refine wpIn_rangeFunc fun fn hfn => ?_
  rw [hro]
  obtain ⟨R, hR⟩ : ∃ R : LoopState → Option Code → Loop, R = fun st pe => { state := st, pending := pe, fn, tmps := a.tmps, params := ps, assign, body, defers := w.heap.size } := ⟨_, rfl⟩
  obtain ⟨V, hV⟩ : ∃ V, V = (w.alloc (.deferred (some []))).alloc (.loop (R .ready none)) := ⟨_, rfl⟩
  have bV : Below w.heap.size w V := by rw [hV]; exact grow_trans (grow_alloc _ _) (grow_alloc _ _)
  have LV : V.heap[w.heap.size + 1]? = some (.loop (R .ready none)) := by
    have := World.alloc_heap_new (w.alloc (.deferred (some []))) (.loop (R .ready none))
    rw [World.size_alloc] at this
    rw [hV]
    exact this
  have DV : V.heap[w.heap.size]? = some (.deferred (some [])) := by
    rw [hV]
    exact (Below.heap_alloc _ _ _ (by simp)).trans (World.alloc_heap_new w _)
  have IV : I [] V := by
    rw [hV]
    exact hI.alloc _ (hI.alloc _ h0)
  refine ⟨w.heap.size + 1, [{ target := .collected w.heap.size, args := #[] }], V, { target := .fn (.func gf) lb, args := #[.func (.yield (w.heap.size + 1)) #[] #[]] }, V, gf, #[.func (.yield (w.heap.size + 1)) #[] #[]] ++ lb, V, ?_, ?_, ?_, ?_, fun _ => h1, ?_⟩
  · rw [hV, hR]
    exact run_enterLoop_outer _ _ _ _ _
  · simp only [resolve, hg]
    simp [go_sem]
  · intro f' hf'
    simp [Target.leads] at hf'
    subst hf'
    exact hFg
  · simp [invoke, go_sem, eg]
  refine (hseq (w.heap.size + 1) (fun s A => I s A ∧ A.heap[w.heap.size + 1]? = some (.loop (R .ready none)) ∧ A.heap[w.heap.size]? = some (.deferred (some []))) (fun s A => ∃ c, Ix c s A ∧ A.heap[w.heap.size + 1]? = some (.loop (R .done (some c))) ∧ A.heap[w.heap.size]? = some (.deferred (some []))) V (hb0.trans (bV.mono hb0.size)) ?_ ?_ ⟨IV, LV, DV⟩).mono ?_
  · rintro s A B ⟨q1, q2, q3⟩ hb
    exact ⟨hIg s A B q1 hb, (hb.block _ (Array.getElem?_eq_some_iff.1 q2).1).trans q2, (hb.block _ (Array.getElem?_eq_some_iff.1 q3).1).trans q3⟩
  · rintro pre x A ⟨q1, q2, q3⟩ hx hlen
    have hy := run_yield (P := P) (args := encs x) q2 (by rw [hR]; exact hps x)
    rw [hR] at hy
    refine ⟨fn, _, assign, body, hy, roundIn_of_wpIn hfn (wpIn_mono (hassign _ pre x A q1 hx hlen) ?_)⟩
    intro e a' A1 hp
    cases e with
    | normal =>
      obtain ⟨k1, k2, k3⟩ := hp
      have L1 := k1.same _ _ (by omega) q2 rfl
      have D1 := k1.same _ _ (Nat.le_refl _) q3 rfl
      refine ⟨_, run_beginRound L1 (by rw [hR]), ?_⟩
      have hlt : w.heap.size + 1 < A1.heap.size := (Array.getElem?_eq_some_iff.1 L1).1
      obtain ⟨A', hA'⟩ : ∃ A', A' = A1.putObj (w.heap.size + 1) (.loop { R .ready none with state := .busy }) := ⟨_, rfl⟩
      have L2 : A'.heap[w.heap.size + 1]? = some (.loop { R .ready none with state := .busy }) := by rw [hA']; exact World.putObj_heap_same hlt
      have D2 : A'.heap[w.heap.size]? = some (.deferred (some [])) := by rw [hA']; exact (World.putObj_heap_other (by omega)).trans D1
      have X2 : Bx pre x a' A' := by rw [hA']; exact (hBx pre x a').putObj (s := ()) _ k3 (by omega) L1 rfl
      have B2 : Below n₀ A A' := by rw [hA']; exact k2.trans (belowK_b (w := w) hn₀ A1 _ _ _ (by omega) L1 rfl rfl)
      rw [← hA']
      refine wpIn_mono (hbody _ pre x a' A' X2) ?_
      have fin : ∀ (j : Option Code) (C : World), KeepsFrom w.heap.size A' C →
          (Instr.endRound (w.heap.size + 1) j).run P C = .ok (.bool j.isNone) (C.putObj (w.heap.size + 1) (.loop (R (if j.isNone then .ready else .done) j))) ∧ C.heap[w.heap.size + 1]? = some (.loop { R .ready none with state := .busy }) ∧
          (C.putObj (w.heap.size + 1) (.loop (R (if j.isNone then .ready else .done) j))).heap[w.heap.size + 1]? = some (.loop (R (if j.isNone then .ready else .done) j)) ∧
          (C.putObj (w.heap.size + 1) (.loop (R (if j.isNone then .ready else .done) j))).heap[w.heap.size]? = some (.deferred (some [])) := fun j C hk => by
        have L3 := hk.same _ _ (by omega) L2 rfl
        have e := run_endRound (P := P) j L3
        rw [hR] at e ⊢
        exact ⟨e, by rw [hR] at L3; exact L3, World.putObj_heap_same (Array.getElem?_eq_some_iff.1 L3).1, (World.putObj_heap_other (by omega)).trans (hk.same _ _ (Nat.le_refl _) D2 rfl)⟩
      intro e a3 C hp
      cases e with
      | normal =>
        obtain ⟨k1, k3, k4⟩ := hp
        obtain ⟨r, l3, l4, d4⟩ := fin none C k1
        exact ⟨_, _, r, .inl ⟨rfl, ⟨hI.putObj _ k4 (by omega) l3 rfl, l4, d4⟩, (B2.trans k3).trans (belowK_b (w := w) hn₀ C _ _ _ (by omega) l3 rfl rfl)⟩⟩
      | ret =>
        obtain ⟨k1, k2⟩ := hp
        obtain ⟨r, l3, l4, d4⟩ := fin (some .ret) C k1
        exact ⟨_, _, r, .inr ⟨rfl, .ret, (hIx _).putObj _ k2 (by omega) l3 rfl, l4, d4⟩⟩
      | exit i =>
        obtain ⟨k1, k2⟩ := hp
        obtain ⟨r, l3, l4, d4⟩ := fin (some (.exit i)) C k1
        exact ⟨_, _, r, .inr ⟨rfl, .exit i, (hIx _).putObj _ k2 (by omega) l3 rfl, l4, d4⟩⟩
      | goto t =>
        obtain ⟨k1, k2⟩ := hp
        obtain ⟨r, l3, l4, d4⟩ := fin (some (.goto t)) C k1
        exact ⟨_, _, r, .inr ⟨rfl, .goto t, (hIx _).putObj _ k2 (by omega) l3 rfl, l4, d4⟩⟩
      | panic _ => exact hp.elim
      | outgrown => exact hp.elim
    | _ => exact hp.elim
  · rintro e C ⟨⟨v, rfl⟩, ⟨xs, hS, q1, q2, q3⟩ | ⟨pre, hSp, c, q1, q2, q3⟩⟩
    · exact ⟨none, _, by have := run_endLoop (P := P) q2 (by rw [hR]; simp); rw [hR] at this; exact this, hdone _ xs _ (Nat.le_refl _) hS (hI.putObj _ q1 (by omega) q2 rfl) ((World.putObj_heap_other (by omega)).trans q3)⟩
    · exact ⟨some c, _, by have := run_endLoop (P := P) q2 (by rw [hR]; simp); rw [hR] at this; exact this, hstop _ c pre _ (Nat.le_refl _) hSp ((hIx c).putObj _ q1 (by omega) q2 rfl) ((World.putObj_heap_other (by omega)).trans q3)⟩

end Go.Proofs.YtgfdgjkbcdmboabGreatDoor
