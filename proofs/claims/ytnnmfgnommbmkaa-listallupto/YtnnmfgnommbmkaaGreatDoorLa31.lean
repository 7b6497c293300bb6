/- list.entries, as a contract: those of a root behind so many that are ahead, at most so many. -/
import Derived.Test.YtnnmfgnommbmkaaGreatDoorLa01
import Derived.Test.YtnnmfgnommbmkaaGreatDoorLa30
import Derived.Test.YtnnmfgnommbmkaaGreatDoorLa21
import Derived.Test.YtnnmfgnommbmkaaGreatDoorLa22
import Derived.Test.YtnnmfgnommbmkaaGreatDoorLa02
namespace Go.Proofs.YtnnmfgnommbmkaaGreatDoor
set_option maxRecDepth 20000
open Go.RowKit Go.Shelf

attribute [local go_sem] Oper.semAt_some

theorem region_lastIn {F : Fence} (hF : Wide F) {n : Nat} {P : Program} {id : Nat} {ops : Array Oper} {Q : Exit → Act → World → Prop} {S : World → Prop} {a : Act} {w : World} (L : Nat) (hm : P.follows .mixedOrders = true) (hd : (ops.all fun o => match o.op with | .defer _ => false | _ => true) = true) (hS : S w.drew)
    (h : S w.drew → wpAnyL P .any ops (fun e a' w' => e = .normal ∧ Q .normal a' w') S L ops.size (Array.replicate ops.size false) a w.drew) : (Code.region id ops true).wpIn F n P Q a w :=
  drawIn hF hm hd (wpAny_of_last _ _ _ _ (h hS))

def fA (cs : List (Nat × Ce)) (h : Nat) : Ent := ((cat cs (h : Int)).key, (cat cs (h : Int)).bs)

theorem lvs_cat {cs : List (Nat × Ce)} : ∀ (T : Tre) (h : Nat), IsT cs h T → (T.lvs h).map (fA cs) = T.ents
  | .emp, _, _ => rfl
  | .lf k b, h, ⟨h1, _, _, h4, h5⟩ => by
    have e : cat cs (h : Int) = ce cs (h - 1) := by rw [cat_nat]; exact if_neg (by omega)
    show [fA cs h] = [(k, b)]
    rw [fA, e, h4, h5]
  | .nd d a b L R, h, ⟨_, _, _, _, _, _, h7, h8⟩ => by
    show (L.lvs a ++ R.lvs b).map _ = L.ents ++ R.ents
    rw [List.map_append, lvs_cat L a h7, lvs_cat R b h8]

structure EnI (w : World) (bl bs bm : Nat) (v : Value) (most : Int) (cs : List (Nat × Ce)) (pre Fp : List Nat) (its : List (Ent × Value)) (lv : Value) (W : World) : Prop where
  low : Below w.heap.size w W
  fp : ∀ k ∈ Fp, ∃ t c, Blk W k t c
  kl : Blk W bl 22 #[lv]
  ks : Blk W bs 29 #[v]
  km : Blk W bm 3 #[.int .i64 most]
  il : bl ∈ Fp
  is : bs ∈ Fp
  im : bm ∈ Fp
  ge : w.heap.size ≤ bl
  row : W.ownsRow w.heap.size 42 33 lv its.length (flatP its)
  ir : ∀ k, lv.ownBlock = some k → k ∈ Fp
  own : ∀ p ∈ its, Key p.1.1 ∧ (∃ sp, Own w.heap.size W p.2 p.1.2 sp) ∧ ∀ k, p.2.ownBlock = some k → k ∈ Fp
  apart : its.Pairwise fun p q => ∀ k, p.2.ownBlock = some k → q.2.ownBlock ≠ some k
  ents : its.map (·.1) = pre.map (fA cs)

section
variable {w : World} {bl bs bm : Nat} {v : Value} {most : Int} {cs : List (Nat × Ce)} {pre Fp : List Nat} {its : List (Ent × Value)} {lv : Value} {W W' : World}
theorem ownsRow_of {e : TypeId} {k n b : Nat} {u : Value} {xs : List Value} (h : W.ownsRow b e k u n xs) (hs : ∀ g, u.ownBlock = some g → W'.heap[g]? = W.heap[g]?) : W'.ownsRow b e k u n xs := by
  refine ⟨h.1, ?_⟩
  rcases h.2 with hh | ⟨g, cap, cur, rfl, hb, hgg, rest⟩
  · exact .inl hh
  · exact .inr ⟨g, cap, cur, rfl, hb, (hs g rfl).trans hgg, rest⟩
theorem EnI.same (h : EnI w bl bs bm v most cs pre Fp its lv W) (hs : ∀ k ∈ Fp, W'.heap[k]? = W.heap[k]?) (hb : Below w.heap.size w W') : EnI w bl bs bm v most cs pre Fp its lv W' where
  low := hb
  fp := fun k hk => by
    obtain ⟨t, c, q⟩ := h.fp k hk
    exact ⟨t, c, q.of_block (hs k hk)⟩
  kl := h.kl.of_block (hs _ h.il)
  ks := h.ks.of_block (hs _ h.is)
  km := h.km.of_block (hs _ h.im)
  il := h.il
  is := h.is
  im := h.im
  ge := h.ge
  row := ownsRow_of h.row (fun g hg => hs g (h.ir g hg))
  ir := h.ir
  own := fun p hp => by
    obtain ⟨h1, ⟨sp, h2⟩, h3⟩ := h.own p hp
    exact ⟨h1, ⟨sp, h2.of_block (fun k hk => hs k (h3 k hk))⟩, h3⟩
  apart := h.apart
  ents := h.ents
theorem EnI.lt (h : EnI w bl bs bm v most cs pre Fp its lv W) : ∀ k ∈ Fp, k < W.heap.size := fun k hk => by
  obtain ⟨t, c, q⟩ := h.fp k hk
  exact q.lt
theorem EnI.mod (h : EnI w bl bs bm v most cs pre Fp its lv W) {Z : List Nat} (m : Mod Z W W') (hz : ∀ k ∈ Fp, k ∉ Z) (hw : ∀ z ∈ Z, w.heap.size ≤ z) : EnI w bl bs bm v most cs pre Fp its lv W' :=
  h.same (fun k hk => m.block k (h.lt k hk) (hz k hk)) (h.low.trans (m.below hw h.low.size))
end

def EnPost (w : World) (es : List Ent) (e : Ending) (w' : World) : Prop :=
  ∃ (lv : Value) (its : List (Ent × Value)), e = .returned lv ∧ its.map (·.1) = es ∧ w'.ownsRow w.heap.size 42 33 lv its.length (flatP its) ∧ (∀ p ∈ its, Key p.1.1 ∧ ∃ sp, Own w.heap.size w' p.2 p.1.2 sp) ∧ (its.Pairwise fun p q => ∀ k, p.2.ownBlock = some k → q.2.ownBlock ≠ some k) ∧ Below w.heap.size w w'

set_option maxRecDepth 100000 in
set_option maxHeartbeats 4000000 in
theorem entries13_any {w : World} {pt : Option Addr} {cs : List (Nat × Ce)} {pend : List Nat} (hV : Vw w (.pointer pt) true (cot cs) (cat cs)) (hWf : Wf cs pend) (root ahead most : Nat) (T : Tre) (hT : IsT cs root T) (hn6 : T.num ≤ 400000) (h4 : T.ents.length ≤ 4096) (hah : ahead < 9223372036854775808) :
    Calls Tryz.prog 30 #[.pointer pt, .int .i64 (root : Int), .int .i64 (ahead : Int), .int .i64 (most : Int)] w (EnPost w ((T.ents.drop ahead).take most)) := by
  refine (callsIn_wide (n := 4)).1 ?_
  have HV := hidden hV
  have H4 := hidden h4
  obtain ⟨ro, hro⟩ : ∃ x : Int, x = (root : Int) := ⟨_, rfl⟩
  obtain ⟨ao, hao⟩ : ∃ x : Int, x = (ahead : Int) := ⟨_, rfl⟩
  obtain ⟨E, hE⟩ : ∃ E, E = (T.lvs root).drop ahead := ⟨_, rfl⟩
  have HEm : Hid (E.map (fA cs) = T.ents.drop ahead) := by
    show _ = _
    rw [hE, List.map_drop, lvs_cat T root hT]
  have HSQ : Hid (∀ (n : Nat), 1 ≤ n → ∀ (b3 b4 b5 : Nat) (w2 : World), Below w.heap.size w w2 → LvAz w2 b3 b4 b5 (.pointer pt) ro ao → SeqZ Fence.wide n Tryz.prog 81 #[.pointer (some ⟨b5, 0, none⟩), .pointer (some ⟨b4, 0, none⟩), .pointer (some ⟨b3, 0, none⟩)] (fun x : Nat => #[Value.int .i64 (x : Int)]) [b3, b4, b5] w.heap.size (fun xs => xs = E) (fun pre => pre <+: E) T.ents.length w2) := fun n hn b3 b4 b5 w2 hb hA l J Jx W hW hJ hY h0 => by
    rw [hE]
    rw [hro, hao] at hA
    exact lv1_in hV hWf root ahead T hT hn6 hah n hn b3 b4 b5 l J Jx W (grow_trans hb hW) (hA.grow hW) hJ hY h0
  have f1 : Fence.wide.fn 50 := trivial
  have f2 : Fence.wide.fn 29 := trivial
  have f3 : Fence.wide.fn 51 := trivial
  clear hV hWf hT hn6 h4 hah hE
  rw [← hro, ← hao]
  have HLV : Hid (∀ w', Calls Tryz.prog 50 #[.pointer pt, .int .i64 ro, .int .i64 ao] w' fun e w'' => e = .returned (.func (.func 81) #[] #[.pointer (some ⟨w'.heap.size + 1 + 1, 0, none⟩), .pointer (some ⟨w'.heap.size + 1, 0, none⟩), .pointer (some ⟨w'.heap.size, 0, none⟩)]) ∧ LvAz w'' w'.heap.size (w'.heap.size + 1) (w'.heap.size + 1 + 1) (.pointer pt) ro ao ∧ Below w'.heap.size w' w'') := fun w' => leaves13_any pt ro ao w'
  clear hro hao
  refine callsIn_of_wp_marks Tryz.func30 rfl trivial ?_ rfl
  simp only [Tryz.ntmps30, List.size_toArray, List.length_cons, List.length_nil, Nat.reduceAdd, Nat.reduceSub, Array.replicate_succ, Array.replicate_zero, List.push_toArray, List.append_toArray, List.nil_append, List.cons_append]
  obtain ⟨wA, hwA⟩ : ∃ x, x = ((w.alloc (.cells #[Value.pointer pt] 29)).alloc (.cells #[Value.int .i64 (most : Int)] 3)).alloc (.cells #[Value.slice none 0 0] 22) := ⟨_, rfl⟩
  have HA0 : Hid (wA.heap.size = w.heap.size + 3 ∧ Below w.heap.size w wA ∧ Blk wA w.heap.size 29 #[.pointer pt] ∧ Blk wA (w.heap.size + 1) 3 #[.int .i64 (most : Int)] ∧ Blk wA (w.heap.size + 1 + 1) 22 #[.slice none 0 0]) := by
    have k1 := ((Blk.new w 29 #[Value.pointer pt]).grow (grow_alloc _ (.cells #[Value.int .i64 (most : Int)] 3))).grow (grow_alloc _ (.cells #[Value.slice none 0 0] 22))
    have k2 := (Blk.new (w.alloc (.cells #[Value.pointer pt] 29)) 3 #[Value.int .i64 (most : Int)]).grow (grow_alloc _ (.cells #[Value.slice none 0 0] 22))
    have k3 := Blk.new ((w.alloc (.cells #[Value.pointer pt] 29)).alloc (.cells #[Value.int .i64 (most : Int)] 3)) 22 #[Value.slice none 0 0]
    simp only [World.size_alloc] at k2 k3
    rw [← hwA] at k1 k2 k3
    refine ⟨by rw [hwA]; simp, by rw [hwA]; exact grow_trans (grow_trans (grow_alloc _ _) (grow_alloc _ _)) (grow_alloc _ _), k1, k2, k3⟩
  have cA : wA.cell? ⟨w.heap.size, 0, none⟩ = some (.pointer pt) := by rw [HA0.out.2.2.1.cell]; rfl
  have HWA := hidden hwA
  clear hwA
  gi_wp2_with (first
    | (gi_at_call 50; rw [← HWA.out]; refine (callsIn_wide.2 (HLV.out _)).mono ?_; rintro e w2 ⟨rfl, hA2, b2⟩))
  have hsA := HA0.out.1
  have hb2 : Below w.heap.size w w2 := grow_trans HA0.out.2.1 b2
  have hsz2 : w.heap.size + 6 ≤ w2.heap.size := by
    have := hA2.2.2.lt
    omega
  have h0 : EnI w (w.heap.size + 1 + 1) w.heap.size (w.heap.size + 1) (.pointer pt) (most : Int) cs [] [w.heap.size, w.heap.size + 1, w.heap.size + 1 + 1] [] (.slice none 0 0) w2 := {
    low := hb2
    fp := fun k hk => by
      simp only [List.mem_cons, List.not_mem_nil, or_false] at hk
      rcases hk with rfl | rfl | rfl
      · exact ⟨_, _, HA0.out.2.2.1.grow b2⟩
      · exact ⟨_, _, HA0.out.2.2.2.1.grow b2⟩
      · exact ⟨_, _, HA0.out.2.2.2.2.grow b2⟩
    kl := HA0.out.2.2.2.2.grow b2
    ks := HA0.out.2.2.1.grow b2
    km := HA0.out.2.2.2.1.grow b2
    il := by simp
    is := by simp
    im := by simp
    ge := by omega
    row := World.ownsRow_nil _ _ _ _
    ir := fun k hk => by simp [Value.ownBlock] at hk
    own := fun p hp => by cases hp
    apart := List.Pairwise.nil
    ents := rfl }
  have hZw : ∀ z ∈ [wA.heap.size, wA.heap.size + 1, wA.heap.size + 1 + 1], w.heap.size + 3 ≤ z ∧ z < w2.heap.size := fun z hz => by
    have := hA2.2.2.lt
    simp only [List.mem_cons, List.not_mem_nil, or_false] at hz
    rcases hz with rfl | rfl | rfl <;> omega
  refine wpIn_rangeZ rfl (by omega) (gf := 81) (lb := #[.pointer (some ⟨wA.heap.size + 1 + 1, 0, none⟩), .pointer (some ⟨wA.heap.size + 1, 0, none⟩), .pointer (some ⟨wA.heap.size, 0, none⟩)]) rfl trivial (enters_of Tryz.func81 (by kernel_rfl) rfl)
    (HSQ.out (4 - 1) (by omega) wA.heap.size (wA.heap.size + 1) (wA.heap.size + 1 + 1) w2 hb2 hA2) (fun z hz => (hZw z hz).2) (by omega) (Below.refl _ _) (fun _ => rfl)
    (fun pre Z W => (∃ Fp its lv, EnI w (w.heap.size + 1 + 1) w.heap.size (w.heap.size + 1) (.pointer pt) (most : Int) cs pre Fp its lv W ∧ ∀ k ∈ Fp, k ∉ Z) ∧ pre.length ≤ most)
    (fun c pre W => c = .exit 0 ∧ pre.dropLast.length = most ∧ ∃ Fp its lv, EnI w (w.heap.size + 1 + 1) w.heap.size (w.heap.size + 1) (.pointer pt) (most : Int) cs pre.dropLast Fp its lv W)
    (fun s Z Z' A B hi hz m hn => by
      obtain ⟨⟨Fp, its, lv, q1, q2⟩, q3⟩ := hi
      refine ⟨⟨Fp, its, lv, q1.mod m q2 (fun z h => ?_), New.apart hn q2 q1.lt⟩, q3⟩
      rcases hz z h with e | e
      · have := hZw z e
        omega
      · omega)
    (fun Z s A B row hi hg hr => by
      obtain ⟨⟨Fp, its, lv, q1, q2⟩, q3⟩ := hi
      refine ⟨⟨Fp, its, lv, q1.same (fun k hk => hg.block k (q1.lt k hk) (fun e => ?_)) (ownFrom_below (β := List Nat) (Nat.le_refl _) (show w.heap.size ≤ w2.heap.size by omega) s A B row q1.low hg hr), q2⟩, q3⟩
      obtain ⟨_, o, ho, hc⟩ := hr k e.symm
      obtain ⟨t, c, hb⟩ := q1.fp k hk
      unfold Blk at hb
      rw [ho] at hb
      injection hb with hb
      rw [hb] at hc
      cases hc)
    (fun c s A B row hi hg hr => by
      obtain ⟨q0, q3, Fp, its, lv, q1⟩ := hi
      refine ⟨q0, q3, Fp, its, lv, q1.same (fun k hk => hg.block k (q1.lt k hk) (fun e => ?_)) (ownFrom_below (β := List Nat) (Nat.le_refl _) (show w.heap.size ≤ w2.heap.size by omega) s A B row q1.low hg hr)⟩
      obtain ⟨_, o, ho, hc⟩ := hr k e.symm
      obtain ⟨t, c, hb⟩ := q1.fp k hk
      unfold Blk at hb
      rw [ho] at hb
      injection hb with hb
      rw [hb] at hc
      cases hc)
    ⟨⟨_, _, _, h0, fun k hk hz => by
      have h1 := hZw k hz
      simp only [List.mem_cons, List.not_mem_nil, or_false] at hk
      omega⟩, Nat.zero_le _⟩
    (fun y => { tmps := #[Value.pointer pt, Value.int IntKind.i64 ro, Value.int IntKind.i64 ao, Value.int IntKind.i64 (most : Int), Value.pointer (some { block := w.heap.size, off := 0 }), undef, undef, Value.pointer (some { block := w.heap.size + 1, off := 0 }), Value.slice none 0 0, Value.pointer (some { block := w.heap.size + 1 + 1, off := 0 }), Value.int .i64 (y : Int), Value.pointer pt, Value.int IntKind.i64 ro, Value.int IntKind.i64 ao, Value.func (Fn.func 81) #[] #[Value.pointer (some { block := wA.heap.size + 1 + 1, off := 0 }), Value.pointer (some { block := wA.heap.size + 1, off := 0 }), Value.pointer (some { block := wA.heap.size, off := 0 })], Value.int .i64 (y : Int), undef, undef, undef, undef, undef, undef, undef, undef, undef, undef, undef, undef, undef, undef, undef], defers := [] }) ?assign ?body ?done ?stop
  case assign =>
    clear hsA
    intro l y W K hK
    gi_wp2
    exact hK
  case body =>
    clear hsA
    rintro l pre Z x W ⟨⟨Fp, its, lv, hE, hFZ⟩, hpm⟩ hlt hZ
    have hil : its.length = pre.length := by
      have := congrArg List.length hE.ents
      simpa using this
    obtain ⟨n, hn⟩ : ∃ n, n = its.length := ⟨_, rfl⟩
    have hrow := hE.row
    rw [← hn] at hrow
    obtain ⟨la, lc, rfl⟩ := lst_slice (lst_of7 hrow)
    have cl : W.cell? ⟨w.heap.size + 1 + 1, 0, none⟩ = some (.slice la n lc) := by rw [hE.kl.cell]; rfl
    have cm : W.cell? ⟨w.heap.size + 1, 0, none⟩ = some (.int .i64 (most : Int)) := by rw [hE.km.cell]; rfl
    have HE := hidden hE
    have HN := hidden hn
    have HFZ := hidden hFZ
    have HIL := hidden hil
    have HPM := hidden hpm
    have HZ := hidden hZ
    have HLT := hidden hlt
    have HRW := hidden hrow
    clear hE hFZ hil hpm hn hZ hlt hrow h0 hZw hA2
    by_cases hq : n = most
    · have hqi : ((n : Int) == (most : Int)) = true := by simp [hq]
      have HX : Hid (pre.length = most) := by
        have := HN.out
        have := HIL.out
        show _ = _
        omega
      clear hq
      gi_wp2
      refine ⟨KeepsFrom.refl _ _, rfl, by rw [List.dropLast_concat]; exact HX.out, Fp, its, .slice la n lc, ?_⟩
      rw [List.dropLast_concat]
      exact HE.out
    · have hqi : ((n : Int) == (most : Int)) = false := by simp; omega
      have HX : Hid (pre.length + 1 ≤ most) := by
        have := HN.out
        have := HIL.out
        have := HPM.out
        show _ ≤ _
        omega
      clear hq
      gi_wp2
      have hd0 : Below W.heap.size W W.drew := below_drewN (Below.refl _ _) 1
      have HLW := hidden HE.out.low
      have HTE := hidden (lst_of7 HRW.out)
      have hnb : ∀ k t c, Blk W k t c → (42 : Nat) ≠ t → k ∉ (Value.slice la n lc).ownBlock.toList := fun k t c hb ht hk => lst_blk_ne HTE.out hb ht (by simpa using hk)
      have HBL := hidden (hnb _ _ _ HE.out.kl (by decide))
      have HBS := hidden (hnb _ _ _ HE.out.ks (by decide))
      have HBM := hidden (hnb _ _ _ HE.out.km (by decide))
      have HSM : Hid (∀ w', Mod (Value.slice la n lc).ownBlock.toList W w' → w'.cell? ⟨w.heap.size + 1 + 1, 0, none⟩ = some (.slice la n lc) ∧ w'.cell? ⟨w.heap.size, 0, none⟩ = some (.pointer pt)) := fun w' m => ⟨by rw [(HE.out.kl.mod m HBL.out).cell]; rfl, by rw [(HE.out.ks.mod m HBS.out).cell]; rfl⟩
      have HFR : Hid (∀ w', Mod (Value.slice la n lc).ownBlock.toList W w' → w'.frozen? ⟨w.heap.size + 1 + 1, 0, none⟩ = false) := fun w' m => (HE.out.kl.mod m HBL.out).frozen 0
      obtain ⟨K, hK0⟩ : ∃ K, K = (cat cs (x : Int)).key := ⟨_, rfl⟩
      obtain ⟨bs, hbs0⟩ : ∃ K, K = (cat cs (x : Int)).bs := ⟨_, rfl⟩
      obtain ⟨y, hy⟩ : ∃ y : Int, y = (x : Int) := ⟨_, rfl⟩
      have HKY : Hid (Key K) := by
        have := (HV.out.ok (x : Int)).hk
        rw [← hK0] at this
        exact this
      have HKE : Hid (∀ w', Below w.heap.size w w' → Calls Tryz.prog 29 #[.pointer pt, .int .i64 y] w' fun e w'' => e = .returned (.agg (B K)) ∧ Below w'.heap.size w' w'') := fun w' hb => by
        rw [hK0, hy]
        exact key_any (HV.out.grow hb) (x : Int)
      have HVA : Hid (∀ w', Below w.heap.size w w' → Calls Tryz.prog 51 #[.pointer pt, .int .i64 y] w' fun e w'' => ∃ v' sp, e = .returned v' ∧ Own w'.heap.size w'' v' bs sp ∧ Below w'.heap.size w' w'') := fun w' hb => by
        rw [hbs0, hy]
        exact valueS_any (HV.out.grow hb) (x : Int)
      have HFX : Hid (fA cs x = (K, bs)) := by
        show _ = _
        rw [hK0, hbs0]
        rfl
      have HN4 : Hid (n ≤ 4096) := by
        have := HN.out
        have := HIL.out
        have := HLT.out
        have := H4.out
        show _ ≤ _
        omega
      rw [← hy]
      have HD0 := hidden hd0
      clear cl cm hqi hnb hK0 hbs0 hy hd0
      have d0 := HD0.out
      refine region_lastIn (.inr ⟨l, rfl⟩) (S := fun w' => w'.cell? ⟨w.heap.size + 1 + 1, 0, none⟩ = some (.slice la n lc) ∧ w'.cell? ⟨w.heap.size, 0, none⟩ = some (.pointer pt)) 10 (by kernel_rfl) (by kernel_rfl) (HSM.out _ (Mod.drew _ _)) (fun hHeld => ?_)
      refine tlg 0 (.slice la n lc) rfl (Or.inl ⟨by rfl, fun w hS => by (have q1 := hS.1; go_simp)⟩) hHeld ?_
      simp only [Act.put, zq1, zq2, zq4, zq5, zq6]
      refine tlg 1 (.pointer pt) rfl (Or.inl ⟨by rfl, fun w hS => by (have q1 := hS.2; go_simp)⟩) hHeld ?_
      simp only [Act.put, zq1, zq2, zq3, zq4, zq5, zq6]
      refine tlp 2 (.int .i64 y) hHeld ?_
      simp only [Act.put, zq1, zq2, zq3, zq4, zq5, zq6]
      refine tlg 4 (.pointer pt) rfl (Or.inl ⟨by rfl, fun w hS => by (have q1 := hS.2; go_simp)⟩) hHeld ?_
      simp only [Act.put, zq1, zq2, zq3, zq4, zq5, zq6]
      refine tlp 5 (.int .i64 y) hHeld ?_
      simp only [Act.put, zq1, zq2, zq3, zq4, zq5, zq6]
      refine wpAnyL_one (i := 3) rfl (by kernel_rfl) (fun KQ hK => ?_)
      go_simp
      refine (HKE.out _ (grow_trans HLW.out d0)).mono ?_
      rintro e z1 ⟨rfl, a1⟩
      have d1 := grow_trans d0 a1
      refine hK.out _ _ (HSM.out _ (Mod.of_below d1 _)) (fun hHeld => ?_)
      clear hK KQ
      refine wpAnyL_one (i := 6) rfl (by kernel_rfl) (fun KQ hK => ?_)
      go_simp
      refine (HVA.out _ (grow_trans HLW.out d1)).mono ?_
      rintro e z2 ⟨u, sp, rfl, ow, a2⟩
      have d2 := grow_trans d1 a2
      obtain ⟨ua, uc, rfl⟩ := ow.slice
      have HBU := hidden (built_p7 K ua bs.length uc HKY.out.1)
      refine hK.out _ _ (HSM.out _ (Mod.of_below d2 _)) (fun hHeld => ?_)
      clear hK KQ
      refine tlg 7 (.agg (encP K (.slice ua bs.length uc)).toArray) rfl (Or.inl ⟨by rfl, fun w hS => exec_blc _ _ 42 _ (by rfl) _ (by rw [List.map_toArray]; exact HBU.out) w⟩) hHeld ?_
      simp only [Act.put, zq1, zq2, zq3, zq4, zq5, zq6]
      refine wpAnyL_one (i := 8) rfl (by kernel_rfl) (fun KQ hK => ?_)
      have oA := (ownsP_below HRW.out d2).alloc (.cells (encP K (.slice ua bs.length uc)).toArray 42)
      have dA := grow_trans d2 (grow_alloc z2 (.cells (encP K (.slice ua bs.length uc)).toArray 42))
      refine step_bsp _ rfl _ rfl K (.slice ua bs.length uc) rfl HKY.out.1 ?_
      refine hK.out _ _ (HSM.out _ (Mod.of_below dA _)) (fun hHeld => ?_)
      clear hK KQ
      refine wpAnyL_one (i := 9) rfl (by kernel_rfl) (fun KQ hK => ?_)
      refine step_appP _ rfl _ _ rfl w.heap.size (.slice la n lc) n (flatP its) oA rfl z2.heap.size K (.slice ua bs.length uc) rfl (Blk.new _ _ _) HKY.out.1 rfl HN4.out (Nat.le_trans (grow_trans HLW.out dA).size (Nat.le_refl _)) ?_
      intro v5 x5 ho5 hg5 hwh5
      have m5 : Mod (Value.slice la n lc).ownBlock.toList W x5 := (Mod.of_below dA _).trans' (Mod.of_grown hg5 (fun k hk => by simp [hk]))
      obtain ⟨sa5, sc5, rfl⟩ : ∃ sa5 sc5, v5 = .slice sa5 (n + 1) sc5 := lst_slice (lst_of7 ho5)
      refine hK.out _ _ (HSM.out _ m5) (fun hHeld => ?_)
      clear hK KQ
      refine wpAnyL_last rfl (by kernel_rfl) (by kernel_rfl) (fun KQ hK => ?_)
      have c5 := (HSM.out _ m5).1
      have fz5 := HFR.out _ m5
      go_simp
      refine hK.out _ _ ?_
      clear hK KQ
      have oV : Own w.heap.size (z2.alloc (.cells (encP K (.slice ua bs.length uc)).toArray 42)) (.slice ua bs.length uc) bs sp := (ow.grow (grow_alloc z2 _)).mono (Nat.le_trans HLW.out.size d1.size)
      have hVN : ∀ k, (Value.slice ua bs.length uc).ownBlock = some k → z1.heap.size ≤ k := fun k hk => (ow.lt k hk).1
      have m6 : Mod [w.heap.size + 1 + 1] x5 (x5.setCell ⟨w.heap.size + 1 + 1, 0, none⟩ (Value.slice sa5 (n + 1) sc5)) := Mod.setCell _ _ _ _ (by simp)
      have k5 := HE.out.kl.mod m5 HBL.out
      have k6 : Blk (x5.setCell ⟨w.heap.size + 1 + 1, 0, none⟩ (Value.slice sa5 (n + 1) sc5)) (w.heap.size + 1 + 1) 22 #[Value.slice sa5 (n + 1) sc5] := k5.set 0 _
      generalize x5.setCell ⟨w.heap.size + 1 + 1, 0, none⟩ (Value.slice sa5 (n + 1) sc5) = x6 at m6 k6 ⊢
      have hl5 := lst_of7 ho5
      have hnl : ∀ k, (Value.slice sa5 (n + 1) sc5).ownBlock = some k → k ∉ [w.heap.size + 1 + 1] := fun k hk e => by
        rw [List.mem_singleton.1 e] at hk
        exact lst_blk_ne hl5 k5 (by decide) hk
      have o6 := ownsRow_mod ho5 m6 hnl
      have hvb : ∀ (u : Value) (zs sq : List Int) (b : Nat), Own b (z2.alloc (.cells (encP K (.slice ua bs.length uc)).toArray 42)) u zs sq → Own b x6 u zs sq := fun u zs sq b ho => by
        have h1 : Own b x5 u zs sq := ho.of_block (fun q hq => hg5.block q (ho.lt q hq).2 (fun e => by
          obtain ⟨c, hbk⟩ := ho.blk q hq
          exact lst_blk_ne (lst_of7 oA) hbk tneB3 e.symm))
        exact h1.mod m6 (fun q hq e => by
          obtain ⟨c, hbk⟩ := h1.blk q hq
          rw [List.mem_singleton.1 e] at hbk
          exact hbk.ne k5 (by decide) rfl)
      have mW : Mod ((Value.slice la n lc).ownBlock.toList ++ [w.heap.size + 1 + 1]) W x6 := (m5.mono (fun k hk => List.mem_append_left _ hk)).trans' (m6.mono (fun k hk => List.mem_append_right _ hk))
      have hge : ∀ k ∈ (Value.slice la n lc).ownBlock.toList ++ [w.heap.size + 1 + 1], w.heap.size ≤ k := fun k hk => by
        rcases List.mem_append.1 hk with hk | hk
        · exact (HRW.out.lt k (by simpa using hk)).1
        · rw [List.mem_singleton.1 hk]
          omega
      have hin : ∀ k ∈ (Value.slice la n lc).ownBlock.toList ++ [w.heap.size + 1 + 1], k ∈ Fp := fun k hk => by
        rcases List.mem_append.1 hk with hk | hk
        · exact HE.out.ir k (by simpa using hk)
        · rw [List.mem_singleton.1 hk]
          exact HE.out.il
      have hlow : Below w.heap.size w x6 := HLW.out.trans (mW.below hge HLW.out.size)
      have hkeep : ∀ k ∈ Fp, k ∉ (Value.slice la n lc).ownBlock.toList → ∃ t c, Blk x6 k t c := fun k hk hnr => by
        by_cases e : k = w.heap.size + 1 + 1
        · subst e
          exact ⟨_, _, k6⟩
        · obtain ⟨t, c, hb⟩ := HE.out.fp k hk
          exact ⟨t, c, (hb.mod m5 hnr).mod m6 (by simpa using e)⟩
      have HEN : EnI w (w.heap.size + 1 + 1) w.heap.size (w.heap.size + 1) (.pointer pt) (most : Int) cs (pre ++ [x]) ((Value.slice sa5 (n + 1) sc5).ownBlock.toList ++ ((Value.slice ua bs.length uc).ownBlock.toList ++ Fp.filter (fun k => !(Value.slice la n lc).ownBlock.toList.contains k))) (its ++ [((K, bs), .slice ua bs.length uc)]) (.slice sa5 (n + 1) sc5) x6 := by
        have hfi : ∀ k, k ∈ Fp → k ∉ (Value.slice la n lc).ownBlock.toList → k ∈ (Value.slice sa5 (n + 1) sc5).ownBlock.toList ++ ((Value.slice ua bs.length uc).ownBlock.toList ++ Fp.filter (fun k => !(Value.slice la n lc).ownBlock.toList.contains k)) := fun k h1 h2 => List.mem_append_right _ (List.mem_append_right _ (List.mem_filter.2 ⟨h1, by simpa using h2⟩))
        refine { low := hlow, fp := ?_, kl := k6, ks := (HE.out.ks.mod m5 HBS.out).mod m6 (by simp; omega), km := (HE.out.km.mod m5 HBM.out).mod m6 (by simp), il := hfi _ HE.out.il HBL.out, is := hfi _ HE.out.is HBS.out, im := hfi _ HE.out.im HBM.out, ge := HE.out.ge, row := ?_, ir := fun k hk => List.mem_append_left _ (by simp [hk]), own := ?_, apart := ?_, ents := ?_ }
        · intro k hk
          rcases List.mem_append.1 hk with hk | hk
          · obtain ⟨_, c, _, hb, _⟩ := lst_blk (lst_of7 o6) k (by simpa using hk)
            exact ⟨_, c, hb⟩
          · rcases List.mem_append.1 hk with hk | hk
            · obtain ⟨c, hb⟩ := (hvb _ _ _ _ oV).blk k (by simpa using hk)
              exact ⟨_, c, hb⟩
            · obtain ⟨h1, h2⟩ := List.mem_filter.1 hk
              exact hkeep k h1 (by simpa using h2)
        · rw [flatP_snoc, List.length_append, List.length_singleton, ← HN.out]
          exact o6
        · intro p hp
          rcases List.mem_append.1 hp with hp | hp
          · obtain ⟨h1, ⟨sq, h2⟩, h3⟩ := HE.out.own p hp
            refine ⟨h1, ⟨sq, hvb _ _ _ _ (h2.grow dA)⟩, fun k hk => hfi k (h3 k hk) (fun e => ?_)⟩
            obtain ⟨c, hb⟩ := h2.blk k hk
            exact lst_blk_ne HTE.out hb tneB3 (by simpa using e)
          · obtain rfl : p = ((K, bs), .slice ua bs.length uc) := by simpa using hp
            exact ⟨HKY.out, ⟨sp, hvb _ _ _ _ oV⟩, fun k hk => List.mem_append_right _ (List.mem_append_left _ (by simp [hk]))⟩
        · refine List.pairwise_append.2 ⟨HE.out.apart, List.pairwise_singleton _ _, fun p hp q hq k hk hk2 => ?_⟩
          obtain rfl : q = ((K, bs), .slice ua bs.length uc) := by simpa using hq
          obtain ⟨_, ⟨sq, h2⟩, _⟩ := HE.out.own p hp
          have h4 := (h2.lt k hk).2
          have h5 := hVN k hk2
          have h6 := d1.size
          omega
        · rw [List.map_append, List.map_append, HE.out.ents]
          simp [HFX.out]
      have hfz : ∀ k ∈ (Value.slice sa5 (n + 1) sc5).ownBlock.toList ++ ((Value.slice ua bs.length uc).ownBlock.toList ++ Fp.filter (fun k => !(Value.slice la n lc).ownBlock.toList.contains k)), k ∉ Z := fun k hk hz => by
        have hzl := (HZ.out k hz).2
        rcases List.mem_append.1 hk with hk | hk
        · have hk : (Value.slice sa5 (n + 1) sc5).ownBlock = some k := by simpa using hk
          rcases hwh5 with e | ⟨k', e, hk'⟩
          · rw [e] at hk
            exact HFZ.out k (HE.out.ir k hk) hz
          · rw [e] at hk
            injection hk with hk
            have := dA.size
            omega
        · rcases List.mem_append.1 hk with hk | hk
          · have := hVN k (by simpa using hk)
            have := d1.size
            omega
          · exact HFZ.out k (List.mem_filter.1 hk).1 hz
      refine ⟨rfl, ?_⟩
      have hout : outZ w2.heap.size w.heap.size Z (fun pre Z W => (∃ Fp its lv, EnI w (w.heap.size + 1 + 1) w.heap.size (w.heap.size + 1) (.pointer pt) (most : Int) cs pre Fp its lv W ∧ ∀ k ∈ Fp, k ∉ Z) ∧ pre.length ≤ most) (fun c pre W => c = .exit 0 ∧ pre.dropLast.length = most ∧ ∃ Fp its lv, EnI w (w.heap.size + 1 + 1) w.heap.size (w.heap.size + 1) (.pointer pt) (most : Int) cs pre.dropLast Fp its lv W) (pre ++ [x]) W .normal { tmps := #[], defers := [] } x6 := by
        refine ⟨⟨mW.size, fun k o _ hk ho => ?_⟩, fun z hz => mW.block z (HZ.out z hz).2 (fun e => HFZ.out z (hin z e) hz), mW.below hge HLW.out.size, ⟨_, _, _, HEN, hfz⟩, by rw [List.length_append, List.length_singleton]; exact HX.out⟩
        rw [mW.block k (Array.getElem?_eq_some_iff.1 hk).1 (fun e => ?_)]
        · exact hk
        · obtain ⟨t, c, hb⟩ := HE.out.fp k (hin k e)
          unfold Blk at hb
          rw [hk] at hb
          injection hb with hb
          rw [hb] at ho
          cases ho
      exact hout
  case done =>
    clear hsA
    rintro D xs Z W hD hxs ⟨⟨Fp, its, lv, hE, _⟩, hpm⟩ hK
    have hes : xs.map (fA cs) = (T.ents.drop ahead).take most := by
      rw [hxs, HEm.out]
      refine (List.take_of_length_le ?_).symm
      rw [← HEm.out, List.length_map, ← hxs]
      exact hpm
    have cl : W.cell? ⟨w.heap.size + 1 + 1, 0, none⟩ = some lv := by rw [hE.kl.cell]; rfl
    have hDF : ∀ k ∈ Fp, (W.putObj D (.deferred none)).heap[k]? = W.heap[k]? := fun k hk => World.putObj_heap_other (fun e => by
      obtain ⟨t, c, hb⟩ := hE.fp k hk
      unfold Blk at hb
      first
        | rw [e, hK] at hb
        | rw [← e, hK] at hb
      cases hb)
    have hE2 := hE.same hDF (hE.low.trans (belowK_b (w := w2) (by omega) W D _ _ hD hK rfl rfl))
    have HP : Hid (EnPost w ((T.ents.drop ahead).take most) (.returned lv) (W.putObj D (.deferred none))) := ⟨lv, its, rfl, by rw [hE2.ents]; exact hes, hE2.row, fun p hp => ⟨(hE2.own p hp).1, (hE2.own p hp).2.1⟩, hE2.apart, hE2.low⟩
    have HK := hidden hK
    clear hE hE2 hDF hes hK h0 hZw hA2
    gi_wp2
    refine ⟨by simp, .inl ⟨_, _, rfl, run_takeDeferred HK.out, ?_⟩⟩
    refine ⟨lv, ?_, HP.out⟩
    simp [results, Tryz.f30, go_sem]
  case stop =>
    clear hsA
    rintro D c pre W hD hpre ⟨rfl, hpl, Fp, its, lv, hE⟩ hK
    have hes : pre.dropLast.map (fA cs) = (T.ents.drop ahead).take most := by
      have h1 : pre.dropLast <+: E := (List.dropLast_prefix pre).trans hpre
      rw [← HEm.out, ← List.map_take, List.prefix_iff_eq_take.1 h1, hpl]
    have cl : W.cell? ⟨w.heap.size + 1 + 1, 0, none⟩ = some lv := by rw [hE.kl.cell]; rfl
    have hDF : ∀ k ∈ Fp, (W.putObj D (.deferred none)).heap[k]? = W.heap[k]? := fun k hk => World.putObj_heap_other (fun e => by
      obtain ⟨t, c, hb⟩ := hE.fp k hk
      unfold Blk at hb
      first
        | rw [e, hK] at hb
        | rw [← e, hK] at hb
      cases hb)
    have hE2 := hE.same hDF (hE.low.trans (belowK_b (w := w2) (by omega) W D _ _ hD hK rfl rfl))
    have HP : Hid (EnPost w ((T.ents.drop ahead).take most) (.returned lv) (W.putObj D (.deferred none))) := ⟨lv, its, rfl, by rw [hE2.ents]; exact hes, hE2.row, fun p hp => ⟨(hE2.own p hp).1, (hE2.own p hp).2.1⟩, hE2.apart, hE2.low⟩
    have HK := hidden hK
    clear hE hE2 hDF hes hK h0 hZw hA2
    gi_wp2
    refine ⟨by simp, .inl ⟨_, _, rfl, run_takeDeferred HK.out, ?_⟩⟩
    refine ⟨lv, ?_, HP.out⟩
    simp [results, Tryz.f30, go_sem]

end Go.Proofs.YtnnmfgnommbmkaaGreatDoor

namespace Go.Proofs.YtnnmfgnommbmkaaGreatDoor
set_option maxRecDepth 20000
open Go.RowKit

def vNd (mk : Bool) (ca : Int → Ce) (h : Int) : List Int := if (ca h).kind = 1 then nd 1 (ca h).key (vaD (ca h).bs) z32 z32 else if (ca h).kind = 2 then nd 2 z32 z32 (vDg mk ca ((ca h).l : Int)) (vDg mk ca ((ca h).r : Int)) else nd 0 z32 z32 z32 z32

end Go.Proofs.YtnnmfgnommbmkaaGreatDoor

namespace Go.Proofs.YtnnmfgnommbmkaaGreatDoor
set_option maxRecDepth 20000
open Go.RowKit

def Kq (S : List Nat) (w : World) (P : World → Prop) : Prop := ∀ w', Mod S w w' → P w'
theorem Kq.now {S : List Nat} {w : World} {P : World → Prop} (h : Kq S w P) : P w := h w (Mod.refl _ _)
theorem Kq.turn {S S1 : List Nat} {w w1 : World} {P : World → Prop} (h : Kq S w P) (m : Mod S w w1) (n : New S w S1) : Kq S1 w1 P := fun w' m' => h w' (m.trans n m')
theorem Kq.step {S : List Nat} {w w1 : World} {P : World → Prop} (h : Kq S w P) (m : Mod S w w1) : Kq S w1 P := h.turn m (New.refl _ _)
theorem Kq.grow {S : List Nat} {w w1 : World} {P : World → Prop} (h : Kq S w P) (b : Below w.heap.size w w1) : Kq S w1 P := h.step (Mod.of_below b S)
theorem Kq.blk {S : List Nat} {w : World} {g : Nat} {t : TypeId} {cs : Array Value} (h : Blk w g t cs) (hn : g ∉ S) : Kq S w (fun w' => Blk w' g t cs) := fun _ m => h.mod m hn
theorem owR_mod {w w' : World} {base : Nat} {e : TypeId} {k : Nat} {v : Value} {n : Nat} {xs : List Value} {S : List Nat} (h : w.ownsRow base e k v n xs) (m : Mod S w w') (hn : ∀ g, v.ownBlock = some g → g ∉ S) : w'.ownsRow base e k v n xs := by
  refine ⟨h.1, ?_⟩
  rcases h.2 with hh | ⟨g, cap, cur, rfl, hb, hgg, rest⟩
  · exact .inl hh
  · exact .inr ⟨g, cap, cur, rfl, hb, (m.block g (Array.getElem?_eq_some_iff.1 hgg).1 (hn g rfl)).trans hgg, rest⟩
theorem owR_grow {w w' : World} {base : Nat} {e : TypeId} {k : Nat} {v : Value} {n : Nat} {xs : List Value} (h : w.ownsRow base e k v n xs) (hb : Below w.heap.size w w') : w'.ownsRow base e k v n xs := owR_mod h (Mod.of_below hb []) (fun _ _ h => by cases h)
theorem owR_base {w : World} {base base' : Nat} {e : TypeId} {k : Nat} {v : Value} {n : Nat} {xs : List Value} (h : w.ownsRow base e k v n xs) (hb : base' ≤ base) : w.ownsRow base' e k v n xs := by
  refine ⟨h.1, h.2.imp id ?_⟩
  rintro ⟨g, cap, cur, e1, e2, e3⟩
  exact ⟨g, cap, cur, e1, Nat.le_trans hb e2, e3⟩
theorem owR_lst {w : World} {base : Nat} {e : TypeId} {k : Nat} {v : Value} {n : Nat} {xs : List Value} (h : w.ownsRow base e k v n xs) : Lst w e k v n xs := ⟨h.1, h.2.imp id (fun ⟨g, cap, cur, a1, _, a3⟩ => ⟨g, cap, cur, a1, Nat.zero_le _, a3⟩)⟩
theorem owR_below {w0 w w' : World} {base : Nat} {e : TypeId} {k : Nat} {v : Value} {n : Nat} {xs : List Value} (hb : Below w0.heap.size w0 w) (h : w.ownsRow base e k v n xs) (hl : w0.heap.size ≤ base) (hg : w.grownBy w' v.ownBlock) : Below w0.heap.size w0 w' := by
  have m : Mod v.ownBlock.toList w w' := Mod.of_grown hg (fun k hk => by simp [hk])
  refine hb.trans (m.below (fun k hk => ?_) hb.size)
  have := (h.lt k (by simpa using hk)).1
  omega

end Go.Proofs.YtnnmfgnommbmkaaGreatDoor
