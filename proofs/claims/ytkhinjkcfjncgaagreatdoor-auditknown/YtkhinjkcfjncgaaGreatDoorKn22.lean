/- The way of a key down a store's tree: its handles, its end, its other sides; that these are the way among the tree's entries, in whatever order. No program in this text. -/
import Derived.Test.YtkhinjkcfjncgaaGreatDoorKn09
import Derived.Deep.RegionHeld
import Derived.Test.YtkhinjkcfjncgaaGreatDoorKn01
import Derived.Test.YtkhinjkcfjncgaaGreatDoorKn21
namespace Go.Proofs.YtkhinjkcfjncgaaGreatDoor
set_option maxRecDepth 20000
open Go.RowKit

/-- The inner nodes of a key's way. -/
def Tre.hs (K : List Int) : Nat → Tre → List Nat
  | _, .emp => []
  | _, .lf _ _ => []
  | h, .nd d hl hr l r => h :: (if kb K d = 1 then r.hs K hr else l.hs K hl)
/-- With what it ends. -/
def Tre.fin (K : List Int) : Nat → Tre → Nat
  | h, .emp => h
  | h, .lf _ _ => h
  | _, .nd d hl hr l r => if kb K d = 1 then r.fin K hr else l.fin K hl
/-- The other sides. -/
def Tre.oth (K : List Int) : Tre → List Nat
  | .emp => []
  | .lf _ _ => []
  | .nd d hl hr l r => if kb K d = 1 then hl :: r.oth K else hr :: l.oth K
/-- The entry with which it ends. -/
def Tre.efin (K : List Int) : Tre → List Ent
  | .emp => []
  | .lf k b => [(k, b)]
  | .nd d _ _ l r => if kb K d = 1 then r.efin K else l.efin K

theorem Tre.hs_oth (K : List Int) : ∀ (T : Tre) (h : Nat), (T.hs K h).length = (T.oth K).length
  | .emp, _ => rfl
  | .lf _ _, _ => rfl
  | .nd d hl hr l r, h => by
    have h1 := Tre.hs_oth K l hl
    have h2 := Tre.hs_oth K r hr
    simp only [Tre.hs, Tre.oth]
    split <;> simp [h1, h2]

structure NdOk (cs : List (Nat × Ce)) (d hl hr : Nat) (L R : Tre) : Prop where
  dp : d < 256
  bL : ∀ e ∈ L.ents, kb e.1 d = 0
  bR : ∀ e ∈ R.ents, kb e.1 d = 1
  two : 2 ≤ (L.ents ++ R.ents).length
  kl : (sdC cs hl).kind = 2 → (sdC cs hl).dp = d + 1
  kr : (sdC cs hr).kind = 2 → (sdC cs hr).dp = d + 1

theorem nd_ok {cs : List (Nat × Ce)} {pend : List Nat} (w : Wf cs pend) {d hl hr h : Nat} {L R : Tre} (hT : IsT cs h (.nd d hl hr L R)) : NdOk cs d hl hr L R := by
  obtain ⟨h1, h2, h3, h4, h5, h6, h7, h8⟩ := hT
  obtain ⟨i, rfl⟩ : ∃ i, h = i + 1 := ⟨h - 1, by omega⟩
  rw [Nat.add_sub_cancel] at h2 h3 h4 h5 h6
  have okL := tree_ok w L hl h7
  have okR := tree_ok w R hr h8
  rcases w.tr i h2 with hn | hn
  · have := hn.kind; omega
  have hdp := hn.dp
  have sl := hn.sl
  have sr := hn.sr
  have hsz := hn.sz
  have htwo := hn.two
  rw [h4] at hdp sl sr
  rw [h5] at sl hsz
  rw [h6] at sr hsz
  have side : ∀ (q : Nat) (b : Int) (U : Tre), TreeOk cs q U → SideOk cs d b q → (∀ e ∈ U.ents, kb e.1 d = b) ∧ ((sdC cs q).kind = 2 → (sdC cs q).dp = d + 1) := fun q b U ok s => by
    rcases s with rfl | ⟨q1, q2, q3, q4⟩
    · refine ⟨fun e he => ?_, fun k => absurd k (by show ¬ zc.kind = 2; decide)⟩
      have := ok.sz
      rw [show (sdC cs 0).sz = 0 from rfl] at this
      rw [List.eq_nil_of_length_eq_zero this.symm] at he
      cases he
    · have es : sdC cs q = ce cs (q - 1) := if_neg (by omega)
      refine ⟨fun e he => ?_, fun k => ?_⟩
      · rw [ok.share (d + 1) (by omega) (fun k => by rcases q4 with q4 | ⟨_, q4⟩ <;> omega) e he d (by omega), es]
        exact q3
      · rw [es] at k ⊢
        rcases q4 with q4 | ⟨_, q4⟩
        · omega
        · exact q4
  obtain ⟨a1, a2⟩ := side hl 0 L okL sl
  obtain ⟨b1, b2⟩ := side hr 1 R okR sr
  exact ⟨hdp, a1, b1, by rw [List.length_append, ← okL.sz, ← okR.sz, ← hsz]; exact htwo, a2, b2⟩

theorem NdOk.side0 {cs : List (Nat × Ce)} {d hl hr : Nat} {L R : Tre} (n : NdOk cs d hl hr L R) : sideOf (L.ents ++ R.ents) d 0 = L.ents := by
  rw [sideOf_app, sideOf_all L.ents d 0 (fun e he => by rw [kbi_in _ _ n.dp]; exact n.bL e he), sideOf_none R.ents d 0 1 (fun e he => by rw [kbi_in _ _ n.dp]; exact n.bR e he) (by omega), List.append_nil]
theorem NdOk.side1 {cs : List (Nat × Ce)} {d hl hr : Nat} {L R : Tre} (n : NdOk cs d hl hr L R) : sideOf (L.ents ++ R.ents) d 1 = R.ents := by
  rw [sideOf_app, sideOf_none L.ents d 1 0 (fun e he => by rw [kbi_in _ _ n.dp]; exact n.bL e he) (by omega), sideOf_all R.ents d 1 (fun e he => by rw [kbi_in _ _ n.dp]; exact n.bR e he), List.nil_append]

theorem sds_few (n d : Nat) (l : List Ent) (K : List Int) (h : l.length ≤ 1) : sds n d l K = [] ∧ rst n d l K = l := by
  cases n with
  | zero => exact ⟨rfl, rfl⟩
  | succ n => exact ⟨by rw [sds, if_pos h], by rw [rst, if_pos h]⟩

/-- A key's way in the tree is its way among the tree's entries. -/
theorem way_tree {cs : List (Nat × Ce)} {pend : List Nat} (w : Wf cs pend) (K : List Int) : ∀ (T : Tre) (h d : Nat), IsT cs h T → ((sdC cs h).kind = 2 → (sdC cs h).dp = d) → d ≤ 256 → (T.oth K).map (sdD cs) = sds (256 - d) d T.ents K ∧ T.efin K = rst (256 - d) d T.ents K ∧ (T.oth K).length ≤ 256 - d
  | .emp, h, d, _, _, _ => by
    obtain ⟨e1, e2⟩ := sds_few (256 - d) d Tre.emp.ents K (by simp [Tre.ents])
    rw [e1, e2]
    exact ⟨rfl, rfl, Nat.zero_le _⟩
  | .lf k b, h, d, _, _, _ => by
    obtain ⟨e1, e2⟩ := sds_few (256 - d) d (Tre.lf k b).ents K (by simp [Tre.ents])
    rw [e1, e2]
    exact ⟨rfl, rfl, Nat.zero_le _⟩
  | .nd d hl hr L R, h, d', hT, hd, _ => by
    have n := nd_ok w hT
    obtain ⟨h1, h2, h3, h4, h5, h6, h7, h8⟩ := hT
    have es : sdC cs h = ce cs (h - 1) := if_neg (by omega)
    obtain rfl : d = d' := by
      rw [es] at hd
      rw [← h4]
      exact hd h3
    have okL := tree_ok w L hl h7
    have okR := tree_ok w R hr h8
    have hdp := n.dp
    obtain ⟨l1, l2, l3⟩ := way_tree w K L hl (d + 1) h7 n.kl (by omega)
    obtain ⟨r1, r2, r3⟩ := way_tree w K R hr (d + 1) h8 n.kr (by omega)
    have dl := okL.dig (d + 1) n.kl
    have dr := okR.dig (d + 1) n.kr
    obtain ⟨m, hm⟩ : ∃ m, 256 - d = m + 1 := ⟨255 - d, by omega⟩
    have hm2 : 256 - (d + 1) = m := by omega
    rw [hm2] at l1 l2 l3 r1 r2 r3 dl dr
    have htwo := n.two
    rw [hm]
    show (Tre.oth K (.nd d hl hr L R)).map (sdD cs) = sds (m + 1) d (L.ents ++ R.ents) K ∧ Tre.efin K (.nd d hl hr L R) = rst (m + 1) d (L.ents ++ R.ents) K ∧ (Tre.oth K (.nd d hl hr L R)).length ≤ m + 1
    rw [sds, rst, if_neg (by omega), if_neg (by omega)]
    rcases kb_two K d with q | q
    · rw [q, show (1 : Int) - 0 = 1 from rfl, n.side0, n.side1]
      simp only [Tre.oth, Tre.efin, q]
      refine ⟨?_, l2, ?_⟩
      · simp only [show ¬ ((0 : Int) = 1) by omega, if_false, List.map_cons]
        rw [l1, dr]
      · simp only [show ¬ ((0 : Int) = 1) by omega, if_false, List.length_cons]
        omega
    · rw [q, show (1 : Int) - 1 = 0 from rfl, n.side0, n.side1]
      simp only [Tre.oth, Tre.efin, q]
      refine ⟨?_, r2, ?_⟩
      · simp only [if_true, List.map_cons]
        rw [r1, dl]
      · simp only [if_true, List.length_cons]
        omega

/-- Ways hang on no order. -/
theorem way_perm (K : List Int) : ∀ (n d : Nat) (l m : List Ent), l.Perm m → sds n d l K = sds n d m K ∧ (rst n d l K).Perm (rst n d m K)
  | 0, _, _, _, h => ⟨rfl, h⟩
  | n + 1, d, l, m, h => by
    have hl := h.length_eq
    have hs : ∀ c, (sideOf l d c).Perm (sideOf m d c) := fun c => h.filter _
    obtain ⟨i1, i2⟩ := way_perm K n (d + 1) _ _ (hs (kb K d))
    rw [sds, sds, rst, rst]
    by_cases q : l.length ≤ 1
    · rw [if_pos q, if_pos q, if_pos (by omega), if_pos (by omega)]
      exact ⟨rfl, h⟩
    · rw [if_neg q, if_neg q, if_neg (by omega), if_neg (by omega), i1, rt_perm n (d + 1) _ _ (hs _)]
      exact ⟨rfl, i2⟩

/-- What the way ends with. -/
theorem fin_is {cs : List (Nat × Ce)} (K : List Int) : ∀ (T : Tre) (h : Nat), IsT cs h T → (T.fin K h = 0 ∧ T.efin K = []) ∨ ∃ k b, T.efin K = [(k, b)] ∧ 1 ≤ T.fin K h ∧ 0 < cc cs (T.fin K h - 1) ∧ (ce cs (T.fin K h - 1)).kind = 1 ∧ (ce cs (T.fin K h - 1)).key = k ∧ (ce cs (T.fin K h - 1)).bs = b
  | .emp, h, e => .inl ⟨e, rfl⟩
  | .lf k b, h, ⟨h1, h2, h3, h4, h5⟩ => .inr ⟨k, b, rfl, h1, h2, h3, h4, h5⟩
  | .nd d hl hr L R, h, ⟨_, _, _, _, _, _, h7, h8⟩ => by
    have a := fin_is K L hl h7
    have b := fin_is K R hr h8
    simp only [Tre.fin, Tre.efin]
    by_cases q : kb K d = 1
    · simp only [q, if_true]
      exact b
    · simp only [q, if_false]
      exact a

/-- An entry with that key is the one with which the way ends. -/
theorem efin_key {cs : List (Nat × Ce)} {pend : List Nat} (w : Wf cs pend) (K : List Int) : ∀ (T : Tre) (h : Nat), IsT cs h T → ∀ e ∈ T.ents, e.1 = K → T.efin K = [e]
  | .emp, _, _, e, he, _ => by cases he
  | .lf k b, _, _, e, he, _ => by
    obtain rfl : e = (k, b) := by simpa [Tre.ents] using he
    rfl
  | .nd d hl hr L R, h, hT, e, he, hK => by
    have n := nd_ok w hT
    obtain ⟨_, _, _, _, _, _, h7, h8⟩ := hT
    simp only [Tre.efin]
    rcases List.mem_append.1 he with he | he
    · have := n.bL e he
      rw [hK] at this
      rw [if_neg (by omega)]
      exact efin_key w K L hl h7 e he hK
    · have := n.bR e he
      rw [hK] at this
      rw [if_pos this]
      exact efin_key w K R hr h8 e he hK
theorem efin_mem (K : List Int) : ∀ (T : Tre), ∀ e ∈ T.efin K, e ∈ T.ents
  | .emp, e, he => by cases he
  | .lf k b, e, he => he
  | .nd d hl hr L R, e, he => by
    simp only [Tre.efin] at he
    split at he
    · exact List.mem_append_right _ (efin_mem K R e he)
    · exact List.mem_append_left _ (efin_mem K L e he)

end Go.Proofs.YtkhinjkcfjncgaaGreatDoor

/- A region that draws its order, whose last operation (number L, for which all others are waited) may write what the loads ahead of it read: what is held (S) is asked for behind every operation but that one. -/
namespace Go.Proofs.YtkhinjkcfjncgaaGreatDoor
set_option maxRecDepth 20000
open Go Go.RowKit

section
variable {P : Program} {ops : Array Oper} {Q : Exit → Act → World → Prop} {md : Region.Mode} {S : World → Prop} {L : Nat}

/-- Whatever has come up, what it waits for has come up too. -/
def shutB (md : Region.Mode) (ops : Array Oper) (listed : Array Bool) : Bool :=
  (List.range ops.size).all fun c => !listed.getD c false || match ops[c]? with
    | none => true
    | some o => o.after.all fun e => !Region.binds md e || listed.getD e.on false
def ShutL (md : Region.Mode) (ops : Array Oper) (listed : Array Bool) : Prop := ∀ c o, ops[c]? = some o → listed.getD c false = true → ∀ e ∈ o.after, Region.binds md e = true → listed.getD e.on false = true
theorem shutL_of {listed : Array Bool} (h : shutB md ops listed = true) : ShutL md ops listed := by
  intro c o ho hl e he hb
  unfold shutB at h
  rw [List.all_eq_true] at h
  have h1 := h c (List.mem_range.2 (Array.getElem?_eq_some_iff.1 ho).1)
  simp only [hl, ho, Bool.not_true, Bool.false_or, Array.all_eq_true_iff_forall_mem] at h1
  have h2 := h1 e he
  simpa [hb] using h2
theorem ShutL.step {listed : Array Bool} {j : Nat} (h : ShutL md ops listed) (hj : j ∈ Region.ready md ops listed) : ShutL md ops (listed.setIfInBounds j true) := by
  intro c o ho hl e he hb
  by_cases hcj : j = c
  · subst hcj
    obtain ⟨_, o', ho', hall⟩ := mem_ready.1 hj
    rw [ho] at ho'
    obtain rfl := Option.some.inj ho'
    exact getD_set_true (hall e he hb)
  · rw [getD_set_ne false hcj] at hl
    exact getD_set_true (h c o ho hl e he hb)

/-- c waits for i, itself or by others. -/
def leads (md : Region.Mode) (ops : Array Oper) (i : Nat) : Nat → Nat → Bool
  | 0, _ => false
  | n + 1, c => match ops[c]? with
    | none => false
    | some o => o.after.any fun e => Region.binds md e && (e.on == i || leads md ops i n e.on)
theorem leads_on {listed : Array Bool} {i : Nat} (hs : ShutL md ops listed) (hi : listed.getD i false = false) : ∀ (n c : Nat), leads md ops i n c = true → ∀ o, ops[c]? = some o → (∀ e ∈ o.after, Region.binds md e = true → listed.getD e.on false = true) → False
  | 0, _, h, _, _, _ => by simp [leads] at h
  | n + 1, c, h, o, ho, hall => by
    unfold leads at h
    rw [ho] at h
    obtain ⟨e, he, hb⟩ := Array.any_eq_true'.1 h
    simp only [Bool.and_eq_true, Bool.or_eq_true, beq_iff_eq] at hb
    have h1 := hall e he hb.1
    rcases hb.2 with q | q
    · rw [q, hi] at h1
      cases h1
    · cases ho2 : ops[e.on]? with
      | none =>
        cases n with
        | zero => simp [leads] at q
        | succ n => unfold leads at q; rw [ho2] at q; cases q
      | some o2 => exact leads_on hs hi n e.on q o2 ho2 (hs e.on o2 ho2 h1)

/-- Whatever order is picked from here on, and S holds behind every operation but the last. -/
def wpAnyL (P : Program) (md : Region.Mode) (ops : Array Oper) (Q : Exit → Act → World → Prop) (S : World → Prop) (L : Nat) : Nat → Array Bool → Act → World → Prop
  | 0, listed, a, w => Region.ready md ops listed = [] ∧ Q .normal a w
  | fuel + 1, listed, a, w =>
    (Region.ready md ops listed = [] → Q .normal a w) ∧
    ∀ i ∈ Region.ready md ops listed, wpOp P ops Q i (fun a' w' => (i = L ∨ S w') ∧ wpAnyL P md ops Q S L fuel (listed.setIfInBounds i true) a' w') a w

theorem wpAny_of_last : ∀ (fuel : Nat) (listed : Array Bool) (a : Act) (w : World), wpAnyL P md ops Q S L fuel listed a w → wpAny P md ops Q fuel listed a w
  | 0, _, _, _, h => h
  | fuel + 1, _, _, _, h => ⟨h.1, fun i hi => wpOp_mono (fun a' w' h' => wpAny_of_last fuel _ a' w' h'.2) (h.2 i hi)⟩

theorem wpAnyL_first {i n : Nat} {oi : Oper} {v : Value} (hi : ops[i]? = some oi) (hsel : ∀ (j : Nat) (o : Oper) cs b, ops[j]? = some o → o.op ≠ .select cs b)
    (hQ : ∀ c a w, Q (.panic c) (a.put oi.dst v) w → Q (.panic c) a w) (hld : leads md ops i n L = true) :
    ∀ (fuel : Nat) (listed : Array Bool) (a : Act) (w : World), ShutL md ops listed →
      (∀ j oj, ops[j]? = some oj → j ≠ i → listed.getD j true = false → (∀ e ∈ oj.after, Region.binds md e = true → e.on ≠ i) → oi.apart ops oj = true) →
      i ∈ Region.ready md ops listed → YieldsIf P ops S oi v a → S w →
      wpAnyL P md ops Q S L fuel (listed.setIfInBounds i true) (a.put oi.dst v) w → wpAnyL P md ops Q S L (fuel + 1) listed a w := by
  intro fuel
  induction fuel with
  | zero =>
    intro listed a w _ _ hr hy hS H
    refine ⟨fun h => (by rw [h] at hr; cases hr), fun j hj => ?_⟩
    by_cases hji : j = i
    · subst hji; exact hy.wpOp hi hS ⟨.inr hS, H⟩
    · have := ready_mono hj hji
      rw [H.1] at this
      cases this
  | succ fuel ih =>
    intro listed a w hsh hfree hr hy hS H
    refine ⟨fun h => (by rw [h] at hr; cases hr), fun j hj => ?_⟩
    by_cases hji : j = i
    · subst hji; exact hy.wpOp hi hS ⟨.inr hS, H⟩
    · have h1 := H.2 j (ready_mono hj hji)
      obtain ⟨hjun, oj, hoj, hall⟩ := mem_ready.1 hj
      have hi0 : listed.getD i false = false := by
        have h0 := (mem_ready.1 hr).1
        rcases Nat.lt_or_ge i listed.size with h' | h'
        · simpa [h'] using h0
        · simp [Array.getElem?_eq_none h']
      have hjL : j ≠ L := fun e => by
        subst e
        exact leads_on hsh hi0 n j hld oj hoj hall
      have hnot : ∀ e ∈ oj.after, Region.binds md e = true → e.on ≠ i := fun e he hb heq => by
        have h1 := hall e he hb
        rw [heq, hi0] at h1
        cases h1
      have h2 := wpOp_putIf hoj (hfree j oj hoj hji hjun hnot) (fun cs b => hsel i oi cs b hi) (fun cs b => hsel j oj cs b hoj) hQ hy h1
      have hfree' : ∀ k ok, ops[k]? = some ok → k ≠ i → (listed.setIfInBounds j true).getD k true = false →
          (∀ e ∈ ok.after, Region.binds md e = true → e.on ≠ i) → oi.apart ops ok = true := fun k ok hk hki hun hno => by
        refine hfree k ok hk hki ?_ hno
        by_cases hjk : j = k
        · subst hjk; exact hjun
        · rw [getD_set_ne true hjk] at hun; exact hun
      refine wpOp_mono (fun a' w' h3 => ⟨h3.2.1, ih (listed.setIfInBounds j true) a' w' (hsh.step hj) hfree' (ready_mono hr (Ne.symm hji)) h3.1 (h3.2.1.resolve_left hjL) ?_⟩) h2
      rw [Array.setIfInBounds_comm _ _ hji]
      exact h3.2.2

theorem wpAnyL_take {i : Nat} {oi : Oper} {v : Value} {fuel : Nat} {listed : Array Bool} {a : Act} {w : World} (hi : ops[i]? = some oi)
    (hs : Region.noSelect ops = true) (hf : Region.free md ops listed i = true) (hr : (Region.ready md ops listed).contains i = true) (hld : leads md ops i 40 L = true) (hsh : shutB md ops listed = true)
    (hQ : ∀ c a w, Q (.panic c) (a.put oi.dst v) w → Q (.panic c) a w) (hy : YieldsIf P ops S oi v a) (hS : S w)
    (h : wpAnyL P md ops Q S L fuel (listed.setIfInBounds i true) (a.put oi.dst v) w) : wpAnyL P md ops Q S L (fuel + 1) listed a w :=
  wpAnyL_first hi (Region.noSelect_spec hs) hQ hld fuel listed a w (shutL_of hsh) (Region.free_spec hi hf) (by simpa using hr) hy hS h

/-- A pure operation is taken (short words). -/
theorem tlp (i : Nat) (v : Value) {oi : Oper} {fuel : Nat} {listed : Array Bool} {a : Act} {w : World} (hS : S w) (h : wpAnyL P md ops Q S L fuel (listed.setIfInBounds i true) (a.put oi.dst v) w)
    (hi : ops[i]? = some oi := by rfl) (hs : Region.noSelect ops = true := by kernel_rfl) (hf : Region.free md ops listed i = true := by kernel_rfl) (hr : (Region.ready md ops listed).contains i = true := by kernel_rfl) (hld : leads md ops i 40 L = true := by kernel_rfl) (hsh : shutB md ops listed = true := by kernel_rfl)
    (hQ : ∀ c a w, Q (.panic c) (a.put oi.dst v) w → Q (.panic c) a w := by exact fun _ _ _ h => h) (hy : YieldsIf P ops S oi v a := by exact Or.inl ⟨by rfl, fun w hS => by go_simp⟩) : wpAnyL P md ops Q S L (fuel + 1) listed a w := wpAnyL_take hi hs hf hr hld hsh hQ hy hS h

def AllReadyL (P : Program) (md : Region.Mode) (ops : Array Oper) (Q : Exit → Act → World → Prop) (S : World → Prop) (L : Nat) (fuel : Nat) (listed : Array Bool) (a : Act) (w : World) (rs : List Nat) : Prop :=
  ∀ i ∈ rs, wpOp P ops Q i (fun a' w' => (i = L ∨ S w') ∧ wpAnyL P md ops Q S L fuel (listed.setIfInBounds i true) a' w') a w
theorem AllReadyL.nil {fuel : Nat} {listed : Array Bool} {a : Act} {w : World} : AllReadyL P md ops Q S L fuel listed a w [] := fun _ h => by cases h
theorem AllReadyL.cons {fuel : Nat} {listed : Array Bool} {a : Act} {w : World} {i : Nat} {o : Oper} {rs : List Nat} (ho : ops[i]? = some o)
    (h : ∀ K' : Act → World → Prop, Shut (∀ a w, (i = L ∨ S w) → (S w → wpAnyL P md ops Q S L fuel (listed.setIfInBounds i true) a w) → (i = L → wpAnyL P md ops Q S L fuel (listed.setIfInBounds i true) a w) → K' a w) → if Region.wanted o (yielded ops a.tmps) = true then Oper.wp P o a w K' Q else K' (a.put o.dst undef) w)
    (hs : AllReadyL P md ops Q S L fuel listed a w rs) : AllReadyL P md ops Q S L fuel listed a w (i :: rs) := fun j hj => by
  rcases List.mem_cons.1 hj with rfl | hj
  · exact wpOp_step ho (fun K' hK => h K' (fun a w hS hW hL => hK a w ⟨hS, hS.elim hL hW⟩))
  · exact hs j hj

theorem wpAnyL_ready {rs : List Nat} {fuel : Nat} {listed : Array Bool} {a : Act} {w : World} (hr : Region.ready md ops listed = rs) (hne : rs ≠ [])
    (h : AllReadyL P md ops Q S L fuel listed a w rs) : wpAnyL P md ops Q S L (fuel + 1) listed a w := ⟨fun h0 => absurd (hr ▸ h0) hne, hr ▸ h⟩

/-- One that is not the last: S is shown behind it. -/
theorem wpAnyL_one {fuel : Nat} {listed : Array Bool} {a : Act} {w : World} {i : Nat} {o : Oper} (ho : ops[i]? = some o) (hr : Region.ready md ops listed = [i])
    (h : ∀ K' : Act → World → Prop, Shut (∀ a w, S w → (S w → wpAnyL P md ops Q S L fuel (listed.setIfInBounds i true) a w) → K' a w) → if Region.wanted o (yielded ops a.tmps) = true then Oper.wp P o a w K' Q else K' (a.put o.dst undef) w) :
    wpAnyL P md ops Q S L (fuel + 1) listed a w :=
  wpAnyL_ready hr (by simp) (AllReadyL.cons ho (fun K' hK => h K' (fun a w hS hW => hK.out a w (.inr hS) hW (fun _ => hW hS))) AllReadyL.nil)

/-- The last one. -/
theorem wpAnyL_last {fuel : Nat} {listed : Array Bool} {a : Act} {w : World} {o : Oper} (ho : ops[L]? = some o) (hr : Region.ready md ops listed = [L]) (he : Region.ready md ops (listed.setIfInBounds L true) = [])
    (h : ∀ K' : Act → World → Prop, Shut (∀ a w, Q .normal a w → K' a w) → if Region.wanted o (yielded ops a.tmps) = true then Oper.wp P o a w K' Q else K' (a.put o.dst undef) w) :
    wpAnyL P md ops Q S L (fuel + 1) listed a w :=
  wpAnyL_ready hr (by simp) (AllReadyL.cons ho (fun K' hK => h K' (fun a w hQ => by
    have hd : wpAnyL P md ops Q S L fuel (listed.setIfInBounds L true) a w := by
      cases fuel with
      | zero => exact ⟨he, hQ⟩
      | succ n => exact ⟨fun _ => hQ, by rw [he]; simp⟩
    exact hK.out a w (.inl rfl) (fun _ => hd) (fun _ => hd))) AllReadyL.nil)

theorem wp_region_last {id : Nat} {a : Act} {w : World} (L : Nat) (hm : P.follows .mixedOrders = true) (hS : S w.drew)
    (h : S w.drew → wpAnyL P .any ops Q S L ops.size (Array.replicate ops.size false) a w.drew) : (Code.region id ops true).wp P Q a w :=
  wp_region_any hm (wpAny_of_last _ _ _ _ (h hS))

end
end Go.Proofs.YtkhinjkcfjncgaaGreatDoor

/- What a store tells as a node by digests (Node), as a contract. -/
namespace Go.Proofs.YtkhinjkcfjncgaaGreatDoor
set_option maxRecDepth 20000
open Go.RowKit

/-- What Node answers. -/
def vNd (mk : Bool) (ca : Int → Ce) (h : Int) : List Int := if (ca h).kind = 1 then nd 1 (ca h).key (vaD (ca h).bs) z32 z32 else if (ca h).kind = 2 then nd 2 z32 z32 (vDg mk ca ((ca h).l : Int)) (vDg mk ca ((ca h).r : Int)) else nd 0 z32 z32 z32 z32

theorem vNd_ok {w : World} {v : Value} {mk : Bool} {ct : Int → Nat} {ca : Int → Ce} (V : Vw w v mk ct ca) (h : Int) : (vNd mk ca h).length = 129 ∧ ∃ k a b c d, vNd mk ca h = nd k a b c d ∧ Nd k a b c d := by
  have z := z32_bytes
  have hq : ∃ k a b c d, vNd mk ca h = nd k a b c d ∧ Nd k a b c d := by
    unfold vNd
    split
    · exact ⟨_, _, _, _, _, rfl, by omega, by omega, (V.ok h).hk.1, dig_length _, rfl, rfl, (V.ok h).hk.2, dig_bytes _, z, z⟩
    · split
      · exact ⟨_, _, _, _, _, rfl, by omega, by omega, rfl, rfl, (vDg_len V _).1, (vDg_len V _).1, z, z, (vDg_len V _).2, (vDg_len V _).2⟩
      · exact ⟨_, _, _, _, _, rfl, by omega, by omega, rfl, rfl, rfl, rfl, z, z, z, z⟩
  obtain ⟨k, a, b, c, d, e, n⟩ := hq
  exact ⟨by rw [e]; exact n.length, k, a, b, c, d, e, n⟩

theorem nodeS_size {zs : List Int} (h : zs.length = 129) : (Tryz.prog.info? 143).map (·.size) = some (B zs).size := by rw [B_size, h]; kernel_rfl

theorem nodeS_zero : ∀ w, (zeroValue 143).run Tryz.prog w = .ok (.agg (B (nd 0 z32 z32 z32 z32))) w := zero_of_info (n := 129) (by kernel_rfl) |>.1

theorem zagg_node : Value.agg Tryz.zeroCells143 = .agg (B (nd 0 z32 z32 z32 z32)) := by kernel_rfl

set_option maxHeartbeats 4000000 in
theorem node_any {w : World} {v : Value} {mk : Bool} {ct : Int → Nat} {ca : Int → Ce} (V : Vw w v mk ct ca) (h : Int) (hL : Laid w) : Calls Tryz.prog 97 #[v, .int .i64 h] w fun e w' => e = .returned (.agg (B (vNd mk ca h))) ∧ Below w.heap.size w w' := by
  have HA : Hid (∀ w', Below w.heap.size w w' → Calls Tryz.prog 108 #[v, .int .i64 h] w' fun e w'' => e = .returned (.agg (cz (ca h)).toArray) ∧ Below w'.heap.size w' w'') := fun w' hb => V.atv w' h hb
  have HVA : Hid (∀ w', Below w.heap.size w w' → Calls Tryz.prog 138 #[(ca h).val] w' fun e w'' => e = .returned (.agg (B (vaD (ca h).bs))) ∧ Below w'.heap.size w' w'') := fun w' hb => value_any _ _ w' ((V.val h).grow hb) (hL.grow hb) (by have := V.len h; omega)
  have HDG : Hid (∀ w' q, Below w.heap.size w w' → Calls Tryz.prog 52 #[v, .int .i64 q] w' fun e w'' => e = .returned (.agg (B (vDg mk ca q))) ∧ Below w'.heap.size w' w'') := fun w' q hb => sdig_any (V.grow hb) q (hL.grow hb)
  have HO := hidden (V.ok h)
  have hlen := (vNd_ok V h).1
  have HLl := hidden (vDg_len V ((ca h).l : Int)).1
  have HLr := hidden (vDg_len V ((ca h).r : Int)).1
  have hvs := (V.ok h).vs
  have hV : vNd mk ca h = if (ca h).kind = 1 then nd 1 (ca h).key (vaD (ca h).bs) z32 z32 else if (ca h).kind = 2 then nd 2 z32 z32 (vDg mk ca ((ca h).l : Int)) (vDg mk ca ((ca h).r : Int)) else nd 0 z32 z32 z32 z32 := rfl
  generalize vNd mk ca h = N at hV hlen ⊢
  obtain ⟨c, hc⟩ : ∃ c, c = ca h := ⟨_, rfl⟩
  rw [← hc] at HA HVA HO HLl HLr hV hvs
  have HNL := hidden hlen
  obtain ⟨sa, sk, hsv⟩ := hvs
  have HSV := hidden hsv
  clear hc hL hlen V
  by_cases h1 : c.kind = 1
  · rw [if_pos h1] at hV
    have HBU : Hid (Tryz.prog.built 143 [(0, .int .u8 1), (1, .agg (B c.key)), (2, .agg (B (vaD c.bs)))] = some (B N)) := by
      show _ = _
      rw [hV]
      exact built_leaf c.key (vaD c.bs) HO.out.hk.1 (dig_length _)
    have HVA2 : Hid (∀ w', Below w.heap.size w w' → Calls Tryz.prog 138 #[.slice sa c.bs.length sk] w' fun e w'' => e = .returned (.agg (B (vaD c.bs))) ∧ Below w'.heap.size w' w'') := by
      rw [← hsv]
      exact HVA
    have HK := hidden h1
    clear hV h1 hsv HVA HDG HLl HLr
    generalize vaD c.bs = VD at HBU HVA2
    go_enter Tryz.func97, Tryz.ntmps97
    go_wp2_with (first
    | ((with_reducible refine at_ald 4 ?_); refine wpList_al _ rfl _ rfl _ nodeS_zero ?_; intro w1 b4 hg4 hl4 B4 b1; have HB4 := hidden B4; have Hg4 := hidden hg4; have Hl4 := hidden hl4; clear B4 hg4 hl4)
    | (go_at_call 108; refine (HA.out _ b1).mono ?_; rintro e w2 ⟨rfl, b2⟩; have HB4a := hidden (HB4.out.grow b2); have Hb2 := hidden (grow_trans b1 b2); clear b2)
    | ((with_reducible refine at_ald 5 ?_); refine wpList_al _ rfl _ rfl _ zero_thC ?_; intro w3 b5 hg5 hl5 B5 b3; have HB4b := hidden (HB4a.out.grow b3); have HB5 := hidden B5; have Hg5 := hidden hg5; have Hb3 := hidden b3; have hne : b4 ≠ b5 := (by have := HB4a.out.lt; omega); clear B5 hg5 hl5 b3)
    | ((with_reducible refine at_st 5 ?_); refine wpList_sto _ rfl _ _ _ rfl b5 _ (cz c).toArray rfl rfl HB5.out (xszC _ (cz_th HO.out)) (xzsC _ (cz_th HO.out)) (all_oneCell_toArray (cz_one HO.out)) ?_; intro w4 B6 r6; have HB4c := hidden (HB4b.out.kept r6 hne); have HB6 := hidden B6; have Hb4 := hidden (below_row (grow_trans Hb2.out Hb3.out) r6 (by have := Hg5.out; have := Hb2.out.size; omega)); have c7 := B6.cell 32; simp only [List.getElem?_toArray] at c7; rw [(cz_at c HO.out).1, HK.out] at c7; clear B6 r6))
    have HBd : Hid (Below w4.heap.size w4 w4.drew) := below_drewN (Below.refl _ _) 1
    have HBL : Hid (∀ w', Below w4.heap.size w4 w' → Below w.heap.size w w') := fun w' hb => grow_trans Hb4.out hb
    have HB4d : Hid (∀ w', Below w4.heap.size w4 w' → Blk w' b4 143 (B (nd 0 z32 z32 z32 z32))) := fun w' hb => HB4c.out.grow hb
    have HKR : Hid (∀ w', Below w4.heap.size w4 w' → w'.rangeAt b5 35 (c.key.map (Value.int .u8))) := fun w' hb => (segK c HO.out).range (HB6.out.grow hb)
    have HVR : Hid (∀ w', Below w4.heap.size w4 w' → w'.cell? ⟨b5, 67, none⟩ = some (.slice sa c.bs.length sk)) := fun w' hb => by
      rw [(HB6.out.grow hb).cell, ← HSV.out]
      simpa using (cz_at c HO.out).2.2.2.1
    clear c7
    refine wp_region_last (S := fun w' => Below w4.heap.size w4 w') 6 (by kernel_rfl) (HBd.out) (fun hHeld => ?_)
    refine wpAnyL_take (i := 0) (v := .pointer (some ⟨b5, 35, none⟩)) rfl (by kernel_rfl) (by kernel_rfl) (by kernel_rfl) (by kernel_rfl) (by kernel_rfl) (fun _ _ _ h => h) (Or.inl ⟨by rfl, fun w hS => by go_simp⟩) hHeld ?_
    simp only [Act.put, List.getElem_toArray, List.getElem_cons_zero, List.setIfInBounds_toArray, List.set_cons_zero, List.set_cons_succ]
    refine wpAnyL_take (i := 1) (v := .agg (B c.key)) rfl (by kernel_rfl) (by kernel_rfl) (by kernel_rfl) (by kernel_rfl) (by kernel_rfl) (fun _ _ _ h => h) (yieldsIf_load_mid rfl 72 (.tmp 13) rfl b5 35 rfl (c.key.map (Value.int .u8)) _ (fun w hS => HKR.out _ hS) Tryz.underlying72 rfl (by rw [List.length_map, HO.out.hk.1]; exact size_path)) hHeld ?_
    simp only [Act.put, List.getElem_toArray, List.getElem_cons_zero, List.getElem_cons_succ, List.setIfInBounds_toArray, List.set_cons_zero, List.set_cons_succ]
    refine wpAnyL_take (i := 2) (v := .pointer (some ⟨b5, 67, none⟩)) rfl (by kernel_rfl) (by kernel_rfl) (by kernel_rfl) (by kernel_rfl) (by kernel_rfl) (fun _ _ _ h => h) (Or.inl ⟨by rfl, fun w hS => by go_simp⟩) hHeld ?_
    simp only [Act.put, List.getElem_toArray, List.getElem_cons_zero, List.getElem_cons_succ, List.setIfInBounds_toArray, List.set_cons_zero, List.set_cons_succ]
    refine wpAnyL_take (i := 3) (v := (.slice sa c.bs.length sk)) rfl (by kernel_rfl) (by kernel_rfl) (by kernel_rfl) (by kernel_rfl) (by kernel_rfl) (fun _ _ _ h => h) (Or.inl ⟨by rfl, fun w hS => by (have q1 := HVR.out _ hS; go_simp)⟩) hHeld ?_
    simp only [Act.put, List.getElem_toArray, List.getElem_cons_zero, List.getElem_cons_succ, List.setIfInBounds_toArray, List.set_cons_zero, List.set_cons_succ]
    refine wpAnyL_one (i := 4) rfl (by kernel_rfl) (fun KQ hK => ?_)
    go_simp
    refine (HVA2.out _ (HBL.out _ hHeld)).mono ?_
    rintro e z1 ⟨rfl, a1⟩
    refine hK.out _ _ (grow_trans hHeld a1) (fun hHeld => ?_)
    clear hK KQ
    refine wpAnyL_take (i := 5) (v := .agg (B N)) rfl (by kernel_rfl) (by kernel_rfl) (by kernel_rfl) (by kernel_rfl) (by kernel_rfl) (fun _ _ _ h => h) (Or.inl ⟨by rfl, fun w hS => exec_blc _ _ 143 _ (by rfl) _ (by rw [List.map_toArray]; exact HBU.out) w⟩) hHeld ?_
    simp only [Act.put, List.getElem_toArray, List.getElem_cons_zero, List.getElem_cons_succ, List.setIfInBounds_toArray, List.set_cons_zero, List.set_cons_succ]
    refine wpAnyL_last rfl (by kernel_rfl) (by kernel_rfl) (fun KQ hK => ?_)
    refine step_sto _ rfl _ _ _ rfl b4 _ (B N) rfl rfl (HB4d.out _ hHeld) (nodeS_size HNL.out) (by rw [B_size, B_size, HNL.out]; rfl) (B_one _) ?_
    intro z4 B9 r9
    refine hK.out _ _ ?_
    clear hK KQ
    go_wp2
    exact bodyPost_ret (v := .agg (B N)) (results_cell_row rfl _ _ b4 _ _ _ _ rfl B9 Tryz.underlying143 rfl (nodeS_size HNL.out)) rfl ⟨rfl, below_row (HBL.out _ hHeld) r9 Hg4.out⟩
  · rw [if_neg h1] at hV
    have n1 : (c.kind == 1) = false := by simp [h1]
    by_cases h2 : c.kind = 2
    · rw [if_pos h2] at hV
      have HBU : Hid (Tryz.prog.built 143 [(0, .int .u8 2), (3, .agg (B (vDg mk ca (c.l : Int)))), (4, .agg (B (vDg mk ca (c.r : Int))))] = some (B N)) := by
        show _ = _
        rw [hV]
        exact built_inner _ _ HLl.out HLr.out
      have HDl : Hid (∀ w', Below w.heap.size w w' → Calls Tryz.prog 52 #[v, .int .i64 (c.l : Int)] w' fun e w'' => e = .returned (.agg (B (vDg mk ca (c.l : Int)))) ∧ Below w'.heap.size w' w'') := fun w' hb => HDG.out w' _ hb
      have HDr : Hid (∀ w', Below w.heap.size w w' → Calls Tryz.prog 52 #[v, .int .i64 (c.r : Int)] w' fun e w'' => e = .returned (.agg (B (vDg mk ca (c.r : Int)))) ∧ Below w'.heap.size w' w'') := fun w' hb => HDG.out w' _ hb
      have HK := hidden h2
      generalize vDg mk ca (c.l : Int) = DL at HBU HDl
      generalize vDg mk ca (c.r : Int) = DR at HBU HDr
      clear hV h1 n1 h2 HVA HDG HLl HLr hsv HSV
      go_enter Tryz.func97, Tryz.ntmps97
      go_wp2_with (first
      | ((with_reducible refine at_ald 4 ?_); refine wpList_al _ rfl _ rfl _ nodeS_zero ?_; intro w1 b4 hg4 hl4 B4 b1; have HB4 := hidden B4; have Hg4 := hidden hg4; have Hl4 := hidden hl4; clear B4 hg4 hl4)
      | (go_at_call 108; refine (HA.out _ b1).mono ?_; rintro e w2 ⟨rfl, b2⟩; have HB4a := hidden (HB4.out.grow b2); have Hb2 := hidden (grow_trans b1 b2); clear b2)
      | ((with_reducible refine at_ald 5 ?_); refine wpList_al _ rfl _ rfl _ zero_thC ?_; intro w3 b5 hg5 hl5 B5 b3; have HB4b := hidden (HB4a.out.grow b3); have HB5 := hidden B5; have Hg5 := hidden hg5; have Hb3 := hidden b3; have hne : b4 ≠ b5 := (by have := HB4a.out.lt; omega); clear B5 hg5 hl5 b3)
      | ((with_reducible refine at_st 5 ?_); refine wpList_sto _ rfl _ _ _ rfl b5 _ (cz c).toArray rfl rfl HB5.out (xszC _ (cz_th HO.out)) (xzsC _ (cz_th HO.out)) (all_oneCell_toArray (cz_one HO.out)) ?_; intro w4 B6 r6; have HB4c := hidden (HB4b.out.kept r6 hne); have HB6 := hidden B6; have Hb4 := hidden (below_row (grow_trans Hb2.out Hb3.out) r6 (by have := Hg5.out; have := Hb2.out.size; omega)); have c7 := B6.cell 32; simp only [List.getElem?_toArray] at c7; rw [(cz_at c HO.out).1, HK.out] at c7; clear B6 r6))
      have HBd : Hid (Below w4.heap.size w4 w4.drew) := below_drewN (Below.refl _ _) 1
      have HBL : Hid (∀ w', Below w4.heap.size w4 w' → Below w.heap.size w w') := fun w' hb => grow_trans Hb4.out hb
      have HB4d : Hid (∀ w', Below w4.heap.size w4 w' → Blk w' b4 143 (B (nd 0 z32 z32 z32 z32))) := fun w' hb => HB4c.out.grow hb
      have HLR : Hid (∀ w', Below w4.heap.size w4 w' → w'.cell? ⟨b5, 69, none⟩ = some (.int .i64 (c.l : Int))) := fun w' hb => by
        rw [(HB6.out.grow hb).cell]
        simpa using (cz_at c HO.out).2.2.2.2.2.1
      have HRR : Hid (∀ w', Below w4.heap.size w4 w' → w'.cell? ⟨b5, 70, none⟩ = some (.int .i64 (c.r : Int))) := fun w' hb => by
        rw [(HB6.out.grow hb).cell]
        simpa using (cz_at c HO.out).2.2.2.2.2.2
      clear c7
      refine wp_region_last (S := fun w' => Below w4.heap.size w4 w') 9 (by kernel_rfl) (HBd.out) (fun hHeld => ?_)
      refine wpAnyL_take (i := 0) (v := v) rfl (by kernel_rfl) (by kernel_rfl) (by kernel_rfl) (by kernel_rfl) (by kernel_rfl) (fun _ _ _ h => h) (Or.inl ⟨by rfl, fun w hS => by go_simp⟩) hHeld ?_
      simp only [Act.put, List.getElem_toArray, List.getElem_cons_zero, List.setIfInBounds_toArray, List.set_cons_zero, List.set_cons_succ]
      refine wpAnyL_take (i := 1) (v := .pointer (some ⟨b5, 69, none⟩)) rfl (by kernel_rfl) (by kernel_rfl) (by kernel_rfl) (by kernel_rfl) (by kernel_rfl) (fun _ _ _ h => h) (Or.inl ⟨by rfl, fun w hS => by go_simp⟩) hHeld ?_
      simp only [Act.put, List.getElem_toArray, List.getElem_cons_zero, List.getElem_cons_succ, List.setIfInBounds_toArray, List.set_cons_zero, List.set_cons_succ]
      refine wpAnyL_take (i := 2) (v := .int .i64 (c.l : Int)) rfl (by kernel_rfl) (by kernel_rfl) (by kernel_rfl) (by kernel_rfl) (by kernel_rfl) (fun _ _ _ h => h) (Or.inl ⟨by rfl, fun w hS => by (have q1 := HLR.out _ hS; go_simp)⟩) hHeld ?_
      simp only [Act.put, List.getElem_toArray, List.getElem_cons_zero, List.getElem_cons_succ, List.setIfInBounds_toArray, List.set_cons_zero, List.set_cons_succ]
      refine wpAnyL_take (i := 4) (v := v) rfl (by kernel_rfl) (by kernel_rfl) (by kernel_rfl) (by kernel_rfl) (by kernel_rfl) (fun _ _ _ h => h) (Or.inl ⟨by rfl, fun w hS => by go_simp⟩) hHeld ?_
      simp only [Act.put, List.getElem_toArray, List.getElem_cons_zero, List.getElem_cons_succ, List.setIfInBounds_toArray, List.set_cons_zero, List.set_cons_succ]
      refine wpAnyL_take (i := 5) (v := .pointer (some ⟨b5, 70, none⟩)) rfl (by kernel_rfl) (by kernel_rfl) (by kernel_rfl) (by kernel_rfl) (by kernel_rfl) (fun _ _ _ h => h) (Or.inl ⟨by rfl, fun w hS => by go_simp⟩) hHeld ?_
      simp only [Act.put, List.getElem_toArray, List.getElem_cons_zero, List.getElem_cons_succ, List.setIfInBounds_toArray, List.set_cons_zero, List.set_cons_succ]
      refine wpAnyL_take (i := 6) (v := .int .i64 (c.r : Int)) rfl (by kernel_rfl) (by kernel_rfl) (by kernel_rfl) (by kernel_rfl) (by kernel_rfl) (fun _ _ _ h => h) (Or.inl ⟨by rfl, fun w hS => by (have q1 := HRR.out _ hS; go_simp)⟩) hHeld ?_
      simp only [Act.put, List.getElem_toArray, List.getElem_cons_zero, List.getElem_cons_succ, List.setIfInBounds_toArray, List.set_cons_zero, List.set_cons_succ]
      refine wpAnyL_one (i := 3) rfl (by kernel_rfl) (fun KQ hK => ?_)
      go_simp
      refine (HDl.out _ (HBL.out _ hHeld)).mono ?_
      rintro e z1 ⟨rfl, a1⟩
      refine hK.out _ _ (grow_trans hHeld a1) (fun hHeld => ?_)
      clear hK KQ
      refine wpAnyL_one (i := 7) rfl (by kernel_rfl) (fun KQ hK => ?_)
      go_simp
      refine (HDr.out _ (HBL.out _ hHeld)).mono ?_
      rintro e z2 ⟨rfl, a2⟩
      refine hK.out _ _ (grow_trans hHeld a2) (fun hHeld => ?_)
      clear hK KQ
      refine wpAnyL_take (i := 8) (v := .agg (B N)) rfl (by kernel_rfl) (by kernel_rfl) (by kernel_rfl) (by kernel_rfl) (by kernel_rfl) (fun _ _ _ h => h) (Or.inl ⟨by rfl, fun w hS => exec_blc _ _ 143 _ (by rfl) _ (by rw [List.map_toArray]; exact HBU.out) w⟩) hHeld ?_
      simp only [Act.put, List.getElem_toArray, List.getElem_cons_zero, List.getElem_cons_succ, List.setIfInBounds_toArray, List.set_cons_zero, List.set_cons_succ]
      refine wpAnyL_last rfl (by kernel_rfl) (by kernel_rfl) (fun KQ hK => ?_)
      refine step_sto _ rfl _ _ _ rfl b4 _ (B N) rfl rfl (HB4d.out _ hHeld) (nodeS_size HNL.out) (by rw [B_size, B_size, HNL.out]; rfl) (B_one _) ?_
      intro z4 B9 r9
      refine hK.out _ _ ?_
      clear hK KQ
      go_wp2
      exact bodyPost_ret (v := .agg (B N)) (results_cell_row rfl _ _ b4 _ _ _ _ rfl B9 Tryz.underlying143 rfl (nodeS_size HNL.out)) rfl ⟨rfl, below_row (HBL.out _ hHeld) r9 Hg4.out⟩
    · rw [if_neg h2] at hV
      have n2 : (c.kind == 2) = false := by simp [h2]
      have HVN := hidden hV
      obtain ⟨k, hk⟩ : ∃ k, k = c.kind := ⟨_, rfl⟩
      have HK := hidden hk
      rw [← hk] at n1 n2
      clear hV h1 h2 HVA HDG HLl HLr hsv HSV hk
      go_enter Tryz.func97, Tryz.ntmps97
      go_wp2_with (first
      | ((with_reducible refine at_ald 4 ?_); refine wpList_al _ rfl _ rfl _ nodeS_zero ?_; intro w1 b4 hg4 hl4 B4 b1; have HB4 := hidden B4; have Hg4 := hidden hg4; have Hl4 := hidden hl4; clear B4 hg4 hl4)
      | (go_at_call 108; refine (HA.out _ b1).mono ?_; rintro e w2 ⟨rfl, b2⟩; have HB4a := hidden (HB4.out.grow b2); have Hb2 := hidden (grow_trans b1 b2); clear b2)
      | ((with_reducible refine at_ald 5 ?_); refine wpList_al _ rfl _ rfl _ zero_thC ?_; intro w3 b5 hg5 hl5 B5 b3; have HB4b := hidden (HB4a.out.grow b3); have HB5 := hidden B5; have Hg5 := hidden hg5; have Hb3 := hidden b3; have hne : b4 ≠ b5 := (by have := HB4a.out.lt; omega); clear B5 hg5 hl5 b3)
      | ((with_reducible refine at_st 5 ?_); refine wpList_sto _ rfl _ _ _ rfl b5 _ (cz c).toArray rfl rfl HB5.out (xszC _ (cz_th HO.out)) (xzsC _ (cz_th HO.out)) (all_oneCell_toArray (cz_one HO.out)) ?_; intro w4 B6 r6; have HB4c := hidden (HB4b.out.kept r6 hne); have HB6 := hidden B6; have Hb4 := hidden (below_row (grow_trans Hb2.out Hb3.out) r6 (by have := Hg5.out; have := Hb2.out.size; omega)); have c7 := B6.cell 32; simp only [List.getElem?_toArray] at c7; rw [(cz_at c HO.out).1, ← HK.out] at c7; clear B6 r6)
      | ((with_reducible refine at_st 4 ?_); refine wpList_sto _ rfl _ _ _ rfl b4 _ (B N) rfl (by rw [HVN.out]; exact zagg_node) HB4c.out (nodeS_size HNL.out) (by rw [B_size, B_size, HNL.out]; rfl) (B_one _) ?_; intro z4 B9 r9))
      exact bodyPost_ret (v := .agg (B N)) (results_cell_row rfl _ _ b4 _ _ _ _ rfl B9 Tryz.underlying143 rfl (nodeS_size HNL.out)) rfl ⟨rfl, below_row Hb4.out r9 Hg4.out⟩

end Go.Proofs.YtkhinjkcfjncgaaGreatDoor
