/- Arrays of bytes held against each other; bytes.Equal; tag.Clash, as a contract. -/
import Derived.Test.YtkhinjkcfjncgaaGreatDoorNa25
import Derived.Test.YtkhinjkcfjncgaaGreatDoorNa28
import Derived.Test.YtkhinjkcfjncgaaGreatDoorNa23
import Derived.Deep.RegionHeld2
import Derived.Test.YtkhinjkcfjncgaaGreatDoorNa44
namespace Go.Proofs.YtkhinjkcfjncgaaGreatDoor
set_option maxRecDepth 20000
open Go.RowKit

set_option maxHeartbeats 400000 in
theorem equal_any (x y : Value) (xs ys : List Int) (w : World) (hx : Reads w x xs) (hy : Reads w y ys) :
    Calls Tryz.prog 161 #[x, y] w fun e w' => e = .returned (.bool (decide (xs = ys))) ∧ w' = w := by
  have c1 := conv_reads hx
  have c2 := conv_reads hy
  have HB : Hid (((strOfNums xs).toList == (strOfNums ys).toList) = decide (xs = ys)) := by
    obtain ⟨_, _, _, _, _, h1, _⟩ := hx
    obtain ⟨_, _, _, _, _, h2, _⟩ := hy
    exact str_beq xs ys h1 h2
  clear hx hy
  go_enter Tryz.func161, Tryz.ntmps161
  go_wp2
  go_ret
  exact ⟨by rw [← HB.out]; rfl, rfl⟩

end Go.Proofs.YtkhinjkcfjncgaaGreatDoor

/- put.plan, as a contract; what it plans. -/
namespace Go.Proofs.YtkhinjkcfjncgaaGreatDoor
set_option maxRecDepth 20000
open Go.RowKit

/-- The sides beside a key's way in the written tree. -/
def BesIs (K : List Int) (T : Tre) (h : Nat) (ss : List Nat) : Prop :=
  (T.efin K = [] ∧ ss = T.oth K) ∨ (∃ b, T.efin K = [(K, b)] ∧ ss = T.oth K) ∨ (∃ k b c, T.efin K = [(k, b)] ∧ k ≠ K ∧ IsCommon K k c ∧ (T.oth K).length ≤ c ∧ c < 256 ∧ ss = besX (T.oth K) c (T.fin K h))

theorem bes_ex {cs : List (Nat × Ce)} {pend : List Nat} (W : Wf cs pend) (K : List Int) (hK : Key K) {T : Tre} {h : Nat} (hT : IsT cs h T) (hd : (sdC cs h).kind = 2 → (sdC cs h).dp = 0) : ∃ ss, BesIs K T h ss ∧ BesOk cs T.ents K ss := by
  rcases fin_is K T h hT with ⟨f1, f2⟩ | ⟨k, b, f1, f2, f3, f4, f5, f6⟩
  · exact ⟨_, .inl ⟨f2, rfl⟩, bes_own W K hT hd (fun e he => by rw [f2] at he; cases he)⟩
  · by_cases q : k = K
    · subst q
      exact ⟨_, .inr (.inl ⟨b, f1, rfl⟩), bes_own W k hT hd (fun e he => by rw [f1] at he; rw [List.mem_singleton.1 he])⟩
    · obtain ⟨c, hc⟩ := common_ex K k
      have hk : Key k := ((tree_ok W T h hT).ent (k, b) (efin_mem K T (k, b) (by rw [f1]; simp))).1
      have hc2 : c < 256 := by
        apply Nat.lt_of_not_le
        intro h256
        have : c = 256 := by have := hc.1; omega
        subst this
        exact q (hc.whole hK hk).symm
      obtain ⟨b1, b2⟩ := bes_other W K hT hd f1 c hc hc2
      exact ⟨_, .inr (.inr ⟨k, b, c, f1, q, hc, b1, hc2, rfl⟩), b2⟩

theorem beside_any {w : World} {v : Value} {cs : List (Nat × Ce)} {pend : List Nat} (V : Vw w v true (cot cs) (cat cs)) (W : Wf cs pend) (h : Nat) (T : Tre) (hT : IsT cs h T) (K : List Int) (hK : Key K) (hrd : (sdC cs h).kind = 2 → (sdC cs h).dp = 0) (a : Option Addr) (n c : Nat) (hI : Ints9 w a (T.hs K h)) (hn : n = (T.hs K h).length) (ss : List Nat) (hss : BesIs K T h ss) :
    Calls Tryz.prog 163 #[v, .agg (B K), .slice a n c, .int .i64 (T.fin K h : Int)] w (BesPost ss w) := by
  have hlen : (T.oth K).length = n := by rw [hn, Tre.hs_oth]
  have h256 : n ≤ 256 := by
    have := (way_tree W K T h 0 hT hrd (by omega)).2.2
    omega
  have hat : ∀ k, k < n → ∃ (x o : Nat) (l r q : Int), (∃ lb, a = some ⟨lb, 0, none⟩ ∧ w.cell? ⟨lb, k, none⟩ = some (.int .i64 (x : Int))) ∧ (T.oth K)[k]? = some o ∧ (∀ w', Below w.heap.size w w' → Calls Tryz.prog 71 #[v, .int .i64 (x : Int)] w' fun e w'' => e = .returned (.tuple #[.int .i64 l, .int .i64 r]) ∧ Below w'.heap.size w' w'') ∧ ∀ w', Calls Tryz.prog 165 #[.agg (B K), .int .i64 (k : Int), .int .i64 l, .int .i64 r] w' fun e w'' => e = .returned (.tuple #[.int .i64 q, .int .i64 (o : Int)]) ∧ Below w'.heap.size w' w'' := fun k hk => by
    obtain ⟨x, a1, a2, a3, a4, a5, a6, a7, a8⟩ := hs_at W K T h 0 hT hrd k (by omega)
    rw [Nat.zero_add] at a5 a6 a7
    obtain ⟨lb, e1, e2⟩ := hI k (by omega)
    have hx : (T.hs K h).getD k 0 = x := by rw [List.getD_eq_getElem?_getD, a1]; rfl
    rw [hx] at e2
    have hca := cat_is (cs := cs) a2
    refine ⟨x, _, ((ce cs (x - 1)).l : Int), ((ce cs (x - 1)).r : Int), (if kb K k = 1 then ((ce cs (x - 1)).r : Int) else ((ce cs (x - 1)).l : Int)), ⟨lb, e1, e2⟩, a7, fun w' hb => ?_, fun w' => ?_⟩
    · have := sides_any (V.grow hb) (x : Int)
      rwa [hca] at this
    · have := turned9_any w' K hK k a6 ((ce cs (x - 1)).l : Int) ((ce cs (x - 1)).r : Int)
      have e : ((if kb K k = 1 then (ce cs (x - 1)).l else (ce cs (x - 1)).r : Nat) : Int) = if kb K k = 1 then ((ce cs (x - 1)).l : Int) else ((ce cs (x - 1)).r : Int) := by split <;> rfl
      rw [e]
      exact this
  rcases fin_is K T h hT with ⟨f1, f2⟩ | ⟨k, b, f1, f2, f3, f4, f5, f6⟩
  · rw [f1]
    rcases hss with ⟨_, rfl⟩ | ⟨b, e, _⟩ | ⟨k, b, c', e, _⟩
    · exact beside_none K hK a n c _ hlen h256 hat
    · rw [f2] at e; cases e
    · rw [f2] at e; cases e
  · have hca := cat_is (cs := cs) f2
    have hky : ∀ w', Below w.heap.size w w' → Calls Tryz.prog 90 #[v, .int .i64 (T.fin K h : Int)] w' fun e w'' => e = .returned (.agg (B k)) ∧ Below w'.heap.size w' w'' := fun w' hb => by
      have := key_any (V.grow hb) (T.fin K h : Int)
      rwa [hca, f5] at this
    rcases hss with ⟨e, _⟩ | ⟨b', e, rfl⟩ | ⟨k', b', c', e, e2, e3, e4, e5, rfl⟩
    · rw [f1] at e; cases e
    · rw [f1] at e
      injection e with e _
      injection e with e _
      subst e
      exact beside_own k hK a n c _ hlen h256 hat _ (by omega) hky
    · rw [f1] at e
      injection e with e _
      injection e with e _
      subst e
      have hk : Key k := ((tree_ok W T h hT).ent (k, b) (efin_mem K T (k, b) (by rw [f1]; simp))).1
      exact beside_other K hK a n c _ hlen h256 hat _ (by omega) k hk e2 hky c' e3 (by rw [← hlen]; exact e4) e5

/-- What plan answers where something is to be made. -/
def PlPost (ss : List Nat) (w : World) (e : Ending) (w' : World) : Prop :=
  ∃ a c, e = .returned (.tuple #[.slice a ss.length c, .bool false, .int .i64 0]) ∧ w'.ownsRow w.heap.size 3 1 (.slice a ss.length c) ss.length (nats ss) ∧ Below w.heap.size w w'

set_option maxHeartbeats 2000000 in
theorem plan_same {w : World} {v : Value} {cs : List (Nat × Ce)} {pend : List Nat} (V : Vw w v true (cot cs) (cat cs)) (W : Wf cs pend) (h : Nat) (T : Tre) (hT : IsT cs h T) (K : List Int) (hK : Key K) (he : vRt true (cot cs h) (cat cs h) h = 0) (u : Value) (bs : List Int) (hu : Reads w u bs) (hsm : T.efin K = [(K, bs)]) :
    Calls Tryz.prog 114 #[v, .int .i64 (h : Int), .agg (B K), u] w fun e w' => e = .returned (.tuple #[.slice none 0 0, .bool true, .int .i64 0]) ∧ Below w.heap.size w w' := by
  have HFD : Hid (∀ w', Below w.heap.size w w' → Calls Tryz.prog 160 #[v, .int .i64 (h : Int), .agg (B K)] w' fun e w'' => ∃ a n c, e = .returned (.tuple #[.slice a n c, .bool true, .int .i64 0]) ∧ Reads w'' (.slice a n c) bs ∧ Below w'.heap.size w' w'') := fun w' hb => by
    have := find_any (V.grow hb) W h T hT K hK he
    rw [hsm] at this
    simp only [fnd, if_true] at this
    refine this.mono ?_
    rintro e w'' ⟨v', sp, rfl, o, b⟩
    obtain ⟨a, c, e1, _⟩ := o.reads
    subst e1
    exact ⟨a, _, c, rfl, o.reads, b⟩
  have HPS : Hid ((Tryz.prog.info? 72).map (·.size) = some (B K).size) := by show _ = _; rw [B_size, hK.1]; exact size_path
  have HU := hidden hu
  obtain ⟨ua, uc, hue, _⟩ := hu
  subst hue
  generalize bs.length = un at HU ⊢
  have HEQ : Hid (∀ w' a n c, Reads w' (.slice a n c) bs → Reads w' (.slice ua un uc) bs → Calls Tryz.prog 161 #[.slice a n c, .slice ua un uc] w' fun e w'' => e = .returned (.bool true) ∧ w'' = w') := fun w' a n c r1 r2 => by
    have := equal_any _ _ bs bs w' r1 r2
    simpa using this
  generalize (h : Int) = hh at HFD ⊢
  clear V W hT hK he hsm
  go_enter Tryz.func114, Tryz.ntmps114
  go_wp2_with (first
    | ((with_reducible refine at_bxd 6 ?_); refine wpList_bx _ rfl _ _ rfl _ rfl ?_; intro w1 b5 hg5 hl5 B5 q5; have HB5 := hidden B5; have HQ5 := hidden q5; clear hg5 hl5 B5 q5)
    | ((with_reducible refine at_ldd 19 6 ?_); refine wpList_ld _ rfl _ _ rfl b5 _ rfl HB5.out _ _ Tryz.underlying72 HPS.out ?_)
    | (go_at_call 160; refine (HFD.out _ HQ5.out).mono ?_; rintro e w2 ⟨fa, fn, fc, rfl, r2, b2⟩; have HR2 := hidden r2; have HQ2 := hidden (grow_trans HQ5.out b2); clear r2 b2)
    | (go_at_call 161; refine (HEQ.out _ _ _ _ HR2.out (HU.out.grow HQ2.out)).mono ?_; rintro e w' ⟨rfl, hx⟩; rw [hx]; clear hx w'))
  go_ret3
  exact ⟨rfl, HQ2.out⟩

set_option maxHeartbeats 4000000 in
theorem plan_new {w : World} {v : Value} {cs : List (Nat × Ce)} {pend : List Nat} (V : Vw w v true (cot cs) (cat cs)) (W : Wf cs pend) (h : Nat) (T : Tre) (hT : IsT cs h T) (K : List Int) (hK : Key K) (he : vRt true (cot cs h) (cat cs h) h = 0) (u : Value) (bs : List Int) (hu : Reads w u bs) (hne : T.efin K ≠ [(K, bs)]) (ss : List Nat) (hss : BesIs K T h ss) (h257 : ss.length ≤ 256) (hct : ∀ i, cc cs i < 1073741824) :
    Calls Tryz.prog 114 #[v, .int .i64 (h : Int), .agg (B K), u] w (PlPost ss w) := by
  have hrd := root_dp hT he
  have HPS : Hid ((Tryz.prog.info? 72).map (·.size) = some (B K).size) := by show _ = _; rw [B_size, hK.1]; exact size_path
  have HHD : Hid (∀ w', Below w.heap.size w w' → Calls Tryz.prog 162 #[v, .int .i64 (h : Int), .agg (B K)] w' (HdPost (T.hs K h) (T.fin K h) w')) := fun w' hb => handles_any (V.grow hb) W h T hT K hK he
  have HBS : Hid (∀ w' a c, Below w.heap.size w w' → Ints9 w' a (T.hs K h) → Calls Tryz.prog 163 #[v, .agg (B K), .slice a (T.hs K h).length c, .int .i64 (T.fin K h : Int)] w' (BesPost ss w')) := fun w' a c hb hi => beside_any (V.grow hb) W h T hT K hK hrd a _ c hi rfl ss hss
  have hct2 : ∀ q, cot cs q < 1073741824 := fun q => by
    unfold cot
    split
    · exact hct _
    · omega
  have h256 : (T.hs K h).length ≤ 256 := by
    have := (way_tree W K T h 0 hT hrd (by omega)).2.2
    rw [Tre.hs_oth]
    omega
  have HCN : Hid (∀ w' a1 a2 c1 c2, Below w.heap.size w w' → Ints9 w' a1 (T.hs K h) → Ints9 w' a2 ss → Calls Tryz.prog 164 #[v, .slice a1 (T.hs K h).length c1, .slice a2 ss.length c2] w' fun e w'' => e = .returned (.bool true) ∧ Below w'.heap.size w' w'') := fun w' a1 a2 c1 c2 hb i1 i2 => countable_any (V.grow hb) hct2 a1 a2 _ _ c1 c2 _ _ i1 i2 rfl rfl h256 (by omega)
  have HPost : Hid (∀ a c w', w'.ownsRow w.heap.size 3 1 (.slice a ss.length c) ss.length (nats ss) → Below w.heap.size w w' → PlPost ss w (.returned (.tuple #[.slice a ss.length c, .bool false, .int .i64 0])) w') := fun a c w' h1 h2 => ⟨a, c, rfl, h1, h2⟩
  have hfin := find_any V W h T hT K hK he
  have HFD : Hid (∀ w', Below w.heap.size w w' → Calls Tryz.prog 160 #[v, .int .i64 (h : Int), .agg (B K)] w' fun e w'' => ∃ a n c, e = .returned (.tuple #[.slice a n c, .bool (fnd (T.efin K) K).2, .int .i64 0]) ∧ Reads w'' (.slice a n c) (fnd (T.efin K) K).1 ∧ Below w'.heap.size w' w'') := fun w' hb => by
    refine (find_any (V.grow hb) W h T hT K hK he).mono ?_
    rintro e w'' ⟨v', sp, rfl, o, b⟩
    obtain ⟨a, c, e1, _⟩ := o.reads
    subst e1
    exact ⟨a, _, c, rfl, o.reads, b⟩
  have hfe : (fnd (T.efin K) K).2 = true → (fnd (T.efin K) K).1 ≠ bs := fun h2 e => by
    rcases fin_is K T h hT with ⟨f1, f2⟩ | ⟨k, b, f1, f2, f3, f4, f5, f6⟩
    · rw [f2] at h2
      cases h2
    · rw [f1] at h2 e hne
      by_cases q : k = K
      · simp only [fnd, q, if_true] at e
        exact hne (by rw [q, e])
      · simp [fnd, q] at h2
  have HU := hidden hu
  obtain ⟨ua, uc, hue, _⟩ := hu
  subst hue
  generalize bs.length = un at HU ⊢
  have HEQ : Hid ((fnd (T.efin K) K).2 = true → ∀ w' a n c, Reads w' (.slice a n c) (fnd (T.efin K) K).1 → Reads w' (.slice ua un uc) bs → Calls Tryz.prog 161 #[.slice a n c, .slice ua un uc] w' fun e w'' => e = .returned (.bool false) ∧ w'' = w') := fun h2 w' a n c r1 r2 => by
    have := equal_any _ _ _ bs w' r1 r2
    simpa [hfe h2] using this
  generalize (fnd (T.efin K) K).1 = fb at HFD HEQ
  generalize (fnd (T.efin K) K).2 = fd at HFD HEQ
  generalize (h : Int) = hh at HFD HHD ⊢
  generalize (T.fin K h : Int) = fin at HHD HBS
  have HHE : Hid (∀ w', Below w.heap.size w w' → Calls Tryz.prog 162 #[v, .int .i64 hh, .agg (B K)] w' fun e w'' => ∃ a c, e = .returned (.tuple #[.slice a (T.hs K h).length c, .int .i64 fin, .int .i64 0]) ∧ Ints9 w'' a (T.hs K h) ∧ Below w'.heap.size w' w'') := fun w' hb => (HHD.out w' hb).mono fun e w'' ⟨a, c, e1, o, b⟩ => ⟨a, c, e1, ints9_lst (owR_lst o) rfl, b⟩
  have HBE : Hid (∀ w' a c, Below w.heap.size w w' → Ints9 w' a (T.hs K h) → Calls Tryz.prog 163 #[v, .agg (B K), .slice a (T.hs K h).length c, .int .i64 fin] w' fun e w'' => ∃ a c, e = .returned (.slice a ss.length c) ∧ w''.ownsRow w'.heap.size 3 1 (.slice a ss.length c) ss.length (nats ss) ∧ Below w'.heap.size w' w'') := HBS
  generalize PlPost ss w = P at HPost ⊢
  generalize T.hs K h = hs at HHE HBE HCN
  generalize hs.length = hn at HHE HBE HCN
  have HIN : Hid (∀ w' b a c, w'.ownsRow b 3 1 (.slice a ss.length c) ss.length (nats ss) → Ints9 w' a ss) := fun w' b a c o => ints9_lst (owR_lst o) rfl
  generalize ss.length = sn at HBE HCN HPost HIN
  clear V W hT hK he hne hss h257 hct hct2 hrd HHD HBS h256 hfe hfin
  cases fd with
  | true =>
    have HE := hidden (HEQ.out rfl)
    clear HEQ
    go_enter Tryz.func114, Tryz.ntmps114
    go_wp2_with (first
      | ((with_reducible refine at_bxd 6 ?_); refine wpList_bx _ rfl _ _ rfl _ rfl ?_; intro w1 b5 hg5 hl5 B5 q5; have HB5 := hidden B5; have HQ5 := hidden q5; clear hg5 hl5 B5 q5)
      | ((with_reducible refine at_ldd 19 6 ?_); refine wpList_ld _ rfl _ _ rfl b5 _ rfl HB5.out _ _ Tryz.underlying72 HPS.out ?_)
      | (go_at_call 160; refine (HFD.out _ HQ5.out).mono ?_; rintro e w2 ⟨fa, fn, fc, rfl, r2, b2⟩; have HR2 := hidden r2; have HQ2 := hidden (grow_trans HQ5.out b2); have HB2 := hidden (HB5.out.grow b2); clear r2 b2)
      | (go_at_call 161; refine (HE.out _ _ _ _ HR2.out (HU.out.grow HQ2.out)).mono ?_; rintro e w' ⟨rfl, hx⟩; rw [hx]; clear hx w')
      | ((with_reducible refine at_ldd 33 6 ?_); refine wpList_ld _ rfl _ _ rfl b5 _ rfl HB2.out _ _ Tryz.underlying72 HPS.out ?_)
      | (go_at_call 162; refine (HHE.out _ HQ2.out).mono ?_; rintro e w3 ⟨ha, hc, rfl, i3, b3⟩; have HI3 := hidden i3; have HQ3 := hidden (grow_trans HQ2.out b3); have HB3 := hidden (HB2.out.grow b3); clear i3 b3)
      | ((with_reducible refine at_ldd 39 6 ?_); refine wpList_ld _ rfl _ _ rfl b5 _ rfl HB3.out _ _ Tryz.underlying72 HPS.out ?_)
      | (go_at_call 163; refine (HBE.out _ _ _ HQ3.out HI3.out).mono ?_; rintro e w4 ⟨sa, sc, rfl, o4, b4⟩; have HO4 := hidden (owR_base o4 HQ3.out.size); have HI4 := hidden (HI3.out.grow b4); have HQ4 := hidden (grow_trans HQ3.out b4); clear o4 b4)
      | (go_at_call 164; refine (HCN.out _ _ _ _ _ HQ4.out HI4.out (HIN.out _ _ _ _ HO4.out)).mono ?_; rintro e w5 ⟨rfl, b5⟩; have HO5 := hidden (owR_grow HO4.out b5); have HQ5' := hidden (grow_trans HQ4.out b5); clear b5))
    go_ret3
    exact HPost.out _ _ _ HO5.out HQ5'.out
  | false =>
    clear HEQ
    go_enter Tryz.func114, Tryz.ntmps114
    go_wp2_with (first
      | ((with_reducible refine at_bxd 6 ?_); refine wpList_bx _ rfl _ _ rfl _ rfl ?_; intro w1 b5 hg5 hl5 B5 q5; have HB5 := hidden B5; have HQ5 := hidden q5; clear hg5 hl5 B5 q5)
      | ((with_reducible refine at_ldd 19 6 ?_); refine wpList_ld _ rfl _ _ rfl b5 _ rfl HB5.out _ _ Tryz.underlying72 HPS.out ?_)
      | (go_at_call 160; refine (HFD.out _ HQ5.out).mono ?_; rintro e w2 ⟨fa, fn, fc, rfl, r2, b2⟩; have HQ2 := hidden (grow_trans HQ5.out b2); have HB2 := hidden (HB5.out.grow b2); clear r2 b2)
      | ((with_reducible refine at_ldd 33 6 ?_); refine wpList_ld _ rfl _ _ rfl b5 _ rfl HB2.out _ _ Tryz.underlying72 HPS.out ?_)
      | (go_at_call 162; refine (HHE.out _ HQ2.out).mono ?_; rintro e w3 ⟨ha, hc, rfl, i3, b3⟩; have HI3 := hidden i3; have HQ3 := hidden (grow_trans HQ2.out b3); have HB3 := hidden (HB2.out.grow b3); clear i3 b3)
      | ((with_reducible refine at_ldd 39 6 ?_); refine wpList_ld _ rfl _ _ rfl b5 _ rfl HB3.out _ _ Tryz.underlying72 HPS.out ?_)
      | (go_at_call 163; refine (HBE.out _ _ _ HQ3.out HI3.out).mono ?_; rintro e w4 ⟨sa, sc, rfl, o4, b4⟩; have HO4 := hidden (owR_base o4 HQ3.out.size); have HI4 := hidden (HI3.out.grow b4); have HQ4 := hidden (grow_trans HQ3.out b4); clear o4 b4)
      | (go_at_call 164; refine (HCN.out _ _ _ _ _ HQ4.out HI4.out (HIN.out _ _ _ _ HO4.out)).mono ?_; rintro e w5 ⟨rfl, b5⟩; have HO5 := hidden (owR_grow HO4.out b5); have HQ5' := hidden (grow_trans HQ4.out b5); clear b5))
    go_ret3
    exact HPost.out _ _ _ HO5.out HQ5'.out

end Go.Proofs.YtkhinjkcfjncgaaGreatDoor
