/- What goes over entries beside those that are wanted (the law's 'gone'), as a contract: where they are the same it says so. -/
import Derived.Test.YtnnmfgnommbmkaaGreatDoorLa01
import Derived.Test.YtnnmfgnommbmkaaGreatDoorLa34
import Derived.Test.YtnnmfgnommbmkaaGreatDoorLa15
import Derived.Test.YtnnmfgnommbmkaaGreatDoorLa40
import Derived.Test.YtnnmfgnommbmkaaGreatDoorLa39
import Derived.Test.YtnnmfgnommbmkaaGreatDoorLa38
namespace Go.Proofs.YtnnmfgnommbmkaaGreatDoor
set_option maxRecDepth 20000
open Go.RowKit Go.Shelf

attribute [local go_sem] Oper.semAt_some

theorem region_heldIn {F : Fence} (hF : Wide F) {n : Nat} {P : Program} {id : Nat} {ops : Array Oper} {Q : Exit → Act → World → Prop} {S : World → Prop} {a : Act} {w : World} (hm : P.follows .mixedOrders = true) (hd : (ops.all fun o => match o.op with | .defer _ => false | _ => true) = true) (hS : S w.drew)
    (h : S w.drew → wpAnyH P .any ops (fun e a' w' => e = .normal ∧ Q .normal a' w') S ops.size (Array.replicate ops.size false) a w.drew) : (Code.region id ops true).wpIn F n P Q a w :=
  drawIn hF hm hd (wpAny_of_held _ _ _ _ (h hS))

theorem eql13_fn (w : World) (fn : Fn) (x y : Array Value) : (binOp .eql 34 (.func fn x y) .nilFunc).run Tryz.prog w = .ok (.bool false) w := by
  have h : ∀ d : Nat, (Op.equalIn (d + 1) 34 (.func fn x y) .nilFunc).run Tryz.prog w = .ok false w := fun d => by
    simp [Op.equalIn, run_underlying Tryz.underlying34]
  simp only [binOp]
  simp [Op.equal, Op.maxDepth, h 9999]

theorem blk_own {A B' : World} {row : Option Nat} {k : Nat} {t : TypeId} {c : Array Value} (h : Blk A k t c) (hg : A.grownBy B' row) (hr : ∀ r, row = some r → ∃ o : Obj, A.heap[r]? = some o ∧ o.isCells = false) : B'.heap[k]? = A.heap[k]? := hg.block k h.lt (fun e => by
  obtain ⟨o, ho, hc⟩ := hr k e.symm
  unfold Blk at h
  rw [ho] at h
  injection h with h
  rw [h] at hc
  cases hc)

structure GoI (w : World) (want : Value) (stop : Int) (k : Nat) (W : World) : Prop where
  low : Below w.heap.size w W
  bw : Blk W w.heap.size 22 #[want]
  bs : Blk W (w.heap.size + 1) 3 #[.int .i64 stop]
  br : Blk W (w.heap.size + 1 + 1) 4 #[.bool false]
  bn : Blk W (w.heap.size + 1 + 1 + 1) 3 #[.int .i64 (k : Int)]
theorem GoI.grow {w : World} {want : Value} {stop : Int} {k : Nat} {A A' : World} (h : GoI w want stop k A) (hb : Below A.heap.size A A') : GoI w want stop k A' := ⟨grow_trans h.low hb, h.bw.grow hb, h.bs.grow hb, h.br.grow hb, h.bn.grow hb⟩
theorem GoI.own {w : World} {want : Value} {stop : Int} {k B0 : Nat} (hB : w.heap.size ≤ B0) {A A' : World} {row : Option Nat} (h : GoI w want stop k A) (hg : A.grownBy A' row) (hr : ∀ r, row = some r → B0 ≤ r ∧ ∃ o : Obj, A.heap[r]? = some o ∧ o.isCells = false) : GoI w want stop k A' :=
  ⟨ownFrom_below (β := Unit) (Nat.le_refl _) hB () A A' row h.low hg hr, h.bw.of_block (blk_own h.bw hg (fun r e => (hr r e).2)), h.bs.of_block (blk_own h.bs hg (fun r e => (hr r e).2)), h.br.of_block (blk_own h.br hg (fun r e => (hr r e).2)), h.bn.of_block (blk_own h.bn hg (fun r e => (hr r e).2))⟩

def goFr (w : World) (fv want : Value) (stop : Int) (bk : Nat) (K : List Int) (u : Value) : Act := { tmps := #[fv, want, Value.int IntKind.i64 stop, undef, Value.pointer (some { block := w.heap.size, off := 0 }), Value.pointer (some { block := w.heap.size + 1, off := 0 }), Value.pointer (some { block := w.heap.size + 1 + 1, off := 0 }), Value.pointer (some { block := w.heap.size + 1 + 1 + 1, off := 0 }), Value.pointer (some { block := bk, off := 0 }), u, fv, Value.bool false, fv, Value.agg (B K), u, undef, undef, undef, undef, undef, undef, undef, undef, undef, undef, undef, undef, undef, undef, undef, undef, undef, undef, undef, undef, undef, undef, undef, undef, undef, undef, undef, undef, undef, undef, undef, undef, undef, undef], defers := [] }

set_option maxRecDepth 100000 in
set_option maxHeartbeats 8000000 in
theorem gone13_any {w : World} {b : Nat} {es : List Ent} (hO : OvAt w b es) (h6 : es.length ≤ 4096) (hbs : ∀ e ∈ es, e.2.length ≤ 65536) (a : Option Addr) (c : Nat) (V : Nat → Value) (hw : PrAt w (.slice a es.length c) V es) (stop : Int) :
    Calls Tryz.prog 17 #[.func (.func 76) #[] #[.pointer (some ⟨b, 0, none⟩)], .slice a es.length c, .int .i64 stop] w fun e w' => e = .returned (.bool true) ∧ Below w.heap.size w w' := by
  refine (callsIn_wide (n := 4)).1 ?_
  have HSQ : Hid (∀ (n : Nat), 1 ≤ n → ∀ w2, Below w.heap.size w w2 → SeqY Fence.wide n Tryz.prog 76 #[.pointer (some ⟨b, 0, none⟩)] (fun x : Ent × Value => #[Value.agg (B x.1.1), x.2]) (NextE w.heap.size es) w.heap.size (fun xs => xs.map (·.1) = es) (fun pre => pre.map (·.1) <+: es) es.length w2) := fun n hn w2 hb l J Jx W hW hJ hY h0 => ov1_in hO h6 hbs n hn l J Jx W (grow_trans hb hW) hJ hY h0
  obtain ⟨m, hm⟩ : ∃ m, m = es.length := ⟨_, rfl⟩
  have HM := hidden hm
  rw [← hm] at hw
  rw [← hm]
  have HW : Hid (∀ k, k < m → ∃ g off va vc K bs, a = some ⟨g, off, none⟩ ∧ es[k]? = some (K, bs) ∧ w.rangeAt g (off + k * 33) (encP K (.slice va bs.length vc)) ∧ Key K ∧ Reads w (.slice va bs.length vc) bs) := fun k hk => by
    rw [hm] at hk
    obtain ⟨a', c', e, _, h2, h3⟩ := hw
    injection e with e1 _ _
    subst e1
    obtain ⟨g, off, ea, hr⟩ := h2 (by omega)
    have h4 := hr k hk
    obtain ⟨hk1, hk2⟩ := h3 k hk
    rw [List.getD_eq_getElem?_getD, List.getElem?_eq_getElem hk, Option.getD_some] at h4 hk1 hk2
    obtain ⟨ua, uc, eV⟩ := reads_sl hk2
    rw [eV] at h4 hk2
    exact ⟨g, off, ua, uc, es[k].1, es[k].2, ea, by rw [List.getElem?_eq_getElem hk], h4, hk1, hk2⟩
  have H6 : Hid (m ≤ 4096) := by rw [hm]; exact h6
  clear hO h6 hbs hw hm
  refine callsIn_of_wp_marks Tryz.func17 rfl trivial ?_ rfl
  simp only [Tryz.ntmps17, List.size_toArray, List.length_cons, List.length_nil, Nat.reduceAdd, Nat.reduceSub, Array.replicate_succ, Array.replicate_zero, List.push_toArray, List.append_toArray, List.nil_append, List.cons_append]
  have hfn := eql13_fn
  gi_wp2
  obtain ⟨wA, hwA⟩ : ∃ x, x = (((w.alloc (.cells #[Value.slice a m c] 22)).alloc (.cells #[Value.int .i64 stop] 3)).alloc (.cells #[Value.bool false] 4)).alloc (.cells #[Value.int .i64 0] 3) := ⟨_, rfl⟩
  have hA0 : GoI w (.slice a m c) stop 0 wA ∧ wA.heap.size = w.heap.size + 4 := by
    have k1 := (((Blk.new w 22 #[Value.slice a m c]).grow (grow_alloc _ (.cells #[Value.int .i64 stop] 3))).grow (grow_alloc _ (.cells #[Value.bool false] 4))).grow (grow_alloc _ (.cells #[Value.int .i64 0] 3))
    have k2 := ((Blk.new (w.alloc (.cells #[Value.slice a m c] 22)) 3 #[Value.int .i64 stop]).grow (grow_alloc _ (.cells #[Value.bool false] 4))).grow (grow_alloc _ (.cells #[Value.int .i64 0] 3))
    have k3 := (Blk.new ((w.alloc (.cells #[Value.slice a m c] 22)).alloc (.cells #[Value.int .i64 stop] 3)) 4 #[Value.bool false]).grow (grow_alloc _ (.cells #[Value.int .i64 0] 3))
    have k4 := Blk.new (((w.alloc (.cells #[Value.slice a m c] 22)).alloc (.cells #[Value.int .i64 stop] 3)).alloc (.cells #[Value.bool false] 4)) 3 #[Value.int .i64 0]
    simp only [World.size_alloc] at k2 k3 k4
    rw [← hwA] at k1 k2 k3 k4
    refine ⟨⟨?_, k1, k2, k3, k4⟩, by rw [hwA]; simp⟩
    rw [hwA]
    exact grow_trans (grow_trans (grow_trans (grow_alloc _ _) (grow_alloc _ _)) (grow_alloc _ _)) (grow_alloc _ _)
  have hsA := hA0.2
  have hlA := hA0.1.low
  rw [← hwA]
  refine wpIn_rangeY rfl (by omega) (gf := 76) (lb := #[.pointer (some ⟨b, 0, none⟩)]) rfl trivial (enters_of Tryz.func76 (by kernel_rfl) rfl) (HSQ.out (4 - 1) (by omega) wA hlA) (by omega) (Below.refl _ _) (fun _ => rfl)
    (fun pre W => GoI w (.slice a m c) stop pre.length W ∧ pre.length ≤ m)
    (fun cc _ W => cc = .ret ∧ Blk W (w.heap.size + 1 + 1) 4 #[.bool true] ∧ Below w.heap.size w W)
    (fun pre x a' W => ∃ bk, a' = goFr w (.func (.func 76) #[] #[.pointer (some ⟨b, 0, none⟩)]) (.slice a m c) stop bk x.1.1 x.2 ∧ GoI w (.slice a m c) stop pre.length W ∧ Blk W bk 32 (B x.1.1) ∧ NextE w.heap.size es pre x W ∧ pre.length < m)
    (fun s A A' h hb => ⟨h.1.grow hb, h.2⟩) (fun s A A' row h hg hr => ⟨h.1.own (by omega) hg hr, h.2⟩)
    (fun cc s A A' row h hg hr => ⟨h.1, h.2.1.of_block (blk_own h.2.1 hg (fun r e => (hr r e).2)), ownFrom_below (β := Unit) (Nat.le_refl _) (show w.heap.size ≤ wA.heap.size by omega) () A A' row h.2.2 hg hr⟩)
    (fun pre x a' s A A' row h hg hr => by
      obtain ⟨bk, q1, q2, q3, ⟨q4, sp, q5⟩, q6⟩ := h
      refine ⟨bk, q1, q2.own (by omega) hg hr, q3.of_block (blk_own q3 hg (fun r e => (hr r e).2)), ⟨q4, sp, q5.of_block (fun k hk => ?_)⟩, q6⟩
      obtain ⟨cs, hb⟩ := q5.blk k hk
      exact blk_own hb hg (fun r e => (hr r e).2))
    ⟨hA0.1, Nat.zero_le _⟩ ?assign ?body ?done ?stop
  case assign =>
    clear hsA hA0 hlA
    rintro l pre x A ⟨hG, _⟩ hx hlt
    have HKL : Hid (Key x.1.1) := by
      obtain ⟨g, off, va, vc, K, bs, _, e, _, hK, _⟩ := HW.out pre.length (by rw [HM.out]; exact hlt)
      rw [hx.1] at e
      injection e with e
      rw [e]
      exact hK
    have HPS := hidden (keyB_size HKL.out)
    have HS2 : Hid ((B (List.replicate 32 0)).size = (B x.1.1).size) := by
      show _ = _
      rw [B_size, B_size, HKL.out.1]
      rfl
    have HG := hidden hG
    have HX := hidden hx
    have HLT : Hid (pre.length < m) := by rw [HM.out]; exact hlt
    clear hG hx hlt
    simp only [List.zipWith_toArray, Array.zip, List.foldl_toArray', List.size_toArray]
    gi_wp2_with (first
      | (refine inList (.inr ⟨l, rfl⟩) (fun c e => by cases e) (wpList_al _ rfl _ rfl _ zero_path (fun w2 g8 hg8 hl8 B8 b2 => ⟨rfl, ?_⟩)); have HG8 := hidden hg8; have HB8 := hidden B8; have HQ2 := hidden b2; clear hg8 hl8 B8 b2)
      | (refine inList (.inr ⟨l, rfl⟩) (fun c e => by cases e) (wpList_sto _ rfl _ _ _ rfl g8 _ (B x.1.1) rfl rfl HB8.out HPS.out HS2.out (B_one _) (fun w4 B9 r9 => ⟨rfl, ?_⟩)); have HB9 := hidden B9; have HQ4 := hidden (below_row HQ2.out r9 HG8.out); clear B9 r9))
    refine ⟨⟨HQ4.out.size, fun k o _ hk _ => (HQ4.out.block k (Array.getElem?_eq_some_iff.1 hk).1).trans hk⟩, HQ4.out.mono HG.out.low.size, g8, rfl, HG.out.grow HQ4.out, HB9.out, ⟨HX.out.1, ?_⟩, HLT.out⟩
    obtain ⟨sp, ho⟩ := HX.out.2
    exact ⟨sp, ho.grow HQ4.out⟩
  case body =>
    clear hsA hA0 hlA
    rintro l pre ⟨⟨K, bs⟩, u⟩ a' A ⟨bk, rfl, hG, hKB, ⟨hex, sp, ho⟩, hlt⟩
    dsimp only at hKB hex ho
    obtain ⟨g, off, va, vc, K', bs', rfl, hek, hrg, hK, hrd⟩ := HW.out pre.length hlt
    rw [hex] at hek
    injection hek with hek
    injection hek with e1 e2
    subst e1
    subst e2
    obtain ⟨ua, uc, rfl⟩ := ho.slice
    obtain ⟨k, hk⟩ : ∃ k, k = pre.length := ⟨_, rfl⟩
    rw [← hk] at hG hrg hlt
    have HKE := hidden hk
    have HG := hidden hG
    have HKL := hidden (pth_ln K hK.1)
    have HKB := hidden hKB
    have HC : Hid (∀ w', Below A.heap.size A w' → w'.cell? ⟨w.heap.size, 0, none⟩ = some (.slice (some ⟨g, off, none⟩) m c) ∧ w'.cell? ⟨w.heap.size + 1, 0, none⟩ = some (.int .i64 stop) ∧ w'.cell? ⟨w.heap.size + 1 + 1, 0, none⟩ = some (.bool false) ∧ w'.cell? ⟨w.heap.size + 1 + 1 + 1, 0, none⟩ = some (.int .i64 (k : Int)) ∧ True) := fun w' hb => by
      have h := HG.out.grow hb
      exact ⟨by rw [h.bw.cell]; rfl, by rw [h.bs.cell]; rfl, by rw [h.br.cell]; rfl, by rw [h.bn.cell]; rfl, trivial⟩
    have hrA := rng_grow hrg hG.low
    have HR1 : Hid (∀ w', Below A.heap.size A w' → w'.rangeAt g (off + k * 33) (B K).toList) := fun w' hb j v hv => rng_grow hrA hb j v (by
      rw [B_toList] at hv
      have hj : j < K.length := by
        have := (List.getElem?_eq_some_iff.1 hv).1
        simpa using this
      rw [encP, List.getElem?_append_left (by simpa using hj)]
      exact hv)
    have HR2 : Hid (∀ w', Below A.heap.size A w' → w'.cell? ⟨g, off + k * 33 + 32, none⟩ = some (.slice va bs.length vc)) := fun w' hb => rng_grow hrA hb 32 _ (by
      rw [encP, List.getElem?_append_right (by simp [hK.1])]
      simp [hK.1])
    have HSM : Hid (∀ w', Below A.heap.size A w' → Calls Tryz.prog 12 #[.slice ua bs.length uc, .slice va bs.length vc] w' fun e w'' => e = .returned (.bool true) ∧ w'' = w') := fun w' hb => by
      have := same_any (.slice ua bs.length uc) (.slice va bs.length vc) bs bs w' (ho.reads.grow hb) ((hrd.grow hG.low).grow hb)
      simpa using this
    have HOV : Hid (∀ w', Below A.heap.size A w' → Calls Tryz.prog 33 #[.slice ua bs.length uc] w' fun e w'' => e = .returned (.tuple #[]) ∧ w'.grownBy w'' (Value.slice ua bs.length uc).ownBlock) := fun w' hb => (over_own w.heap.size _ bs sp w' (ho.grow hb)).mono (fun e w'' h => ⟨h.1, h.2.2.1⟩)
    have HUB : Hid (∀ x t cs, Blk A x t cs → (5 : Nat) ≠ t → x ∉ (Value.slice ua bs.length uc).ownBlock.toList) := fun x t cs hb ht hx => by
      obtain ⟨cs', hb'⟩ := ho.blk x (by simpa using hx)
      exact hb'.ne hb ht rfl
    have HUY : Hid (∀ x ∈ (Value.slice ua bs.length uc).ownBlock.toList, ∃ t cs, Blk A x t cs) := fun x hx => by
      obtain ⟨cs', hb'⟩ := ho.blk x (by simpa using hx)
      exact ⟨_, _, hb'⟩
    have HUG : Hid (∀ x ∈ (Value.slice ua bs.length uc).ownBlock.toList, w.heap.size ≤ x) := fun x hx => (ho.lt x (by simpa using hx)).1
    have hE := path_eq K K hK.1 hK.1
    simp only [decide_true] at hE
    have i1 : (k : Int) < (m : Int) := by omega
    have i0 : (0 : Int) ≤ (k : Int) := by omega
    have hmk : decide (m ≤ k) = false := by simpa using hlt
    have hmk2 : ¬ m ≤ k := by omega
    have hwk : wrap64 ((k : Int) + 1) = (k : Int) + 1 := Go.IntWalk.wrap64_in _ (by have := H6.out; omega)
    have HLM := hidden hlt
    clear hex hG hKB ho hrg hrd hrA hK hlt hk
    unfold goFr
    gi_wp2
    refine region_heldIn (.inr ⟨l, rfl⟩) (S := fun w' => Below A.heap.size A w') (by kernel_rfl) (by kernel_rfl) (below_drewN (Below.refl _ _) 1) (fun hHeld => ?_)
    refine wpAnyH_take (i := 0) (v := .int .i64 (k : Int)) rfl (by kernel_rfl) (by kernel_rfl) (by kernel_rfl) (fun _ _ _ h => absurd h.1 (by simp)) (Or.inl ⟨by rfl, fun w hS => by (have q1 := (HC.out _ hS).2.2.2.1; go_simp)⟩) hHeld ?_
    simp only [Act.put, zq1, zq2, zq4, zq5, zq6]
    refine wpAnyH_take (i := 1) (v := .slice (some ⟨g, off, none⟩) m c) rfl (by kernel_rfl) (by kernel_rfl) (by kernel_rfl) (fun _ _ _ h => absurd h.1 (by simp)) (Or.inl ⟨by rfl, fun w hS => by (have q1 := (HC.out _ hS).1; go_simp)⟩) hHeld ?_
    simp only [Act.put, zq1, zq2, zq3, zq4, zq5, zq6]
    refine wpAnyH_take (i := 2) (v := .int .i64 (m : Int)) rfl (by kernel_rfl) (by kernel_rfl) (by kernel_rfl) (fun _ _ _ h => absurd h.1 (by simp)) (Or.inl ⟨by rfl, fun w hS => by go_simp⟩) hHeld ?_
    simp only [Act.put, zq1, zq2, zq3, zq4, zq5, zq6]
    refine wpAnyH_take (i := 3) (v := .bool false) rfl (by kernel_rfl) (by kernel_rfl) (by kernel_rfl) (fun _ _ _ h => absurd h.1 (by simp)) (Or.inl ⟨by rfl, fun w hS => by go_simp⟩) hHeld ?_
    simp only [Act.put, zq1, zq2, zq3, zq4, zq5, zq6]
    refine wpAnyH_take (i := 4) (v := .bool false) rfl (by kernel_rfl) (by kernel_rfl) (by kernel_rfl) (fun _ _ _ h => absurd h.1 (by simp)) (Or.inl ⟨by rfl, fun w hS => by go_simp⟩) hHeld ?_
    simp only [Act.put, zq1, zq2, zq3, zq4, zq5, zq6]
    refine wpAnyH_take (i := 5) (v := .agg (B K)) rfl (by kernel_rfl) (by kernel_rfl) (by kernel_rfl) (fun _ _ _ h => absurd h.1 (by simp)) (yieldsIf_load_mid rfl 32 (.tmp 8) rfl bk 0 rfl (B K).toList _ (fun w hS => (HKB.out.grow hS).range) Tryz.underlying32 rfl HKL.out) hHeld ?_
    simp only [Act.put, zq1, zq2, zq3, zq4, zq5, zq6]
    refine wpAnyH_take (i := 6) (v := .slice (some ⟨g, off, none⟩) m c) rfl (by kernel_rfl) (by kernel_rfl) (by kernel_rfl) (fun _ _ _ h => absurd h.1 (by simp)) (Or.inl ⟨by rfl, fun w hS => by (have q1 := (HC.out _ hS).1; go_simp)⟩) hHeld ?_
    simp only [Act.put, zq1, zq2, zq3, zq4, zq5, zq6]
    refine wpAnyH_take (i := 7) (v := .int .i64 (k : Int)) rfl (by kernel_rfl) (by kernel_rfl) (by kernel_rfl) (fun _ _ _ h => absurd h.1 (by simp)) (Or.inl ⟨by rfl, fun w hS => by (have q1 := (HC.out _ hS).2.2.2.1; go_simp)⟩) hHeld ?_
    simp only [Act.put, zq1, zq2, zq3, zq4, zq5, zq6]
    refine wpAnyH_take (i := 8) (v := .pointer (some ⟨g, off + k * 33, none⟩)) rfl (by kernel_rfl) (by kernel_rfl) (by kernel_rfl) (fun _ _ _ h => absurd h.1 (by simp)) (Or.inl ⟨by rfl, fun w hS => by go_simp⟩) hHeld ?_
    simp only [Act.put, zq1, zq2, zq3, zq4, zq5, zq6]
    refine wpAnyH_take (i := 9) (v := .pointer (some ⟨g, off + k * 33, none⟩)) rfl (by kernel_rfl) (by kernel_rfl) (by kernel_rfl) (fun _ _ _ h => absurd h.1 (by simp)) (Or.inl ⟨by rfl, fun w hS => by go_simp⟩) hHeld ?_
    simp only [Act.put, zq1, zq2, zq3, zq4, zq5, zq6]
    refine wpAnyH_take (i := 10) (v := .agg (B K)) rfl (by kernel_rfl) (by kernel_rfl) (by kernel_rfl) (fun _ _ _ h => absurd h.1 (by simp)) (yieldsIf_load_mid rfl 32 (.tmp 24) rfl g (off + k * 33) rfl (B K).toList _ (fun w hS => HR1.out _ hS) Tryz.underlying32 rfl HKL.out) hHeld ?_
    simp only [Act.put, zq1, zq2, zq3, zq4, zq5, zq6]
    refine wpAnyH_take (i := 11) (v := .bool false) rfl (by kernel_rfl) (by kernel_rfl) (by kernel_rfl) (fun _ _ _ h => absurd h.1 (by simp)) (Or.inl ⟨by rfl, fun w hS => by go_simp⟩) hHeld ?_
    simp only [Act.put, zq1, zq2, zq3, zq4, zq5, zq6]
    refine wpAnyH_take (i := 12) (v := .bool false) rfl (by kernel_rfl) (by kernel_rfl) (by kernel_rfl) (fun _ _ _ h => absurd h.1 (by simp)) (Or.inl ⟨by rfl, fun w hS => by go_simp⟩) hHeld ?_
    simp only [Act.put, zq1, zq2, zq3, zq4, zq5, zq6]
    refine wpAnyH_take (i := 13) (v := .bool false) rfl (by kernel_rfl) (by kernel_rfl) (by kernel_rfl) (fun _ _ _ h => absurd h.1 (by simp)) (Or.inl ⟨by rfl, fun w hS => by go_simp⟩) hHeld ?_
    simp only [Act.put, zq1, zq2, zq3, zq4, zq5, zq6]
    refine wpAnyH_take (i := 14) (v := .slice ua bs.length uc) rfl (by kernel_rfl) (by kernel_rfl) (by kernel_rfl) (fun _ _ _ h => absurd h.1 (by simp)) (Or.inl ⟨by rfl, fun w hS => by go_simp⟩) hHeld ?_
    simp only [Act.put, zq1, zq2, zq3, zq4, zq5, zq6]
    refine wpAnyH_take (i := 15) (v := .slice (some ⟨g, off, none⟩) m c) rfl (by kernel_rfl) (by kernel_rfl) (by kernel_rfl) (fun _ _ _ h => absurd h.1 (by simp)) (Or.inl ⟨by rfl, fun w hS => by (have q1 := (HC.out _ hS).1; go_simp)⟩) hHeld ?_
    simp only [Act.put, zq1, zq2, zq3, zq4, zq5, zq6]
    refine wpAnyH_take (i := 16) (v := .int .i64 (k : Int)) rfl (by kernel_rfl) (by kernel_rfl) (by kernel_rfl) (fun _ _ _ h => absurd h.1 (by simp)) (Or.inl ⟨by rfl, fun w hS => by (have q1 := (HC.out _ hS).2.2.2.1; go_simp)⟩) hHeld ?_
    simp only [Act.put, zq1, zq2, zq3, zq4, zq5, zq6]
    refine wpAnyH_take (i := 17) (v := .pointer (some ⟨g, off + k * 33, none⟩)) rfl (by kernel_rfl) (by kernel_rfl) (by kernel_rfl) (fun _ _ _ h => absurd h.1 (by simp)) (Or.inl ⟨by rfl, fun w hS => by go_simp⟩) hHeld ?_
    simp only [Act.put, zq1, zq2, zq3, zq4, zq5, zq6]
    refine wpAnyH_take (i := 18) (v := .pointer (some ⟨g, off + k * 33 + 32, none⟩)) rfl (by kernel_rfl) (by kernel_rfl) (by kernel_rfl) (fun _ _ _ h => absurd h.1 (by simp)) (Or.inl ⟨by rfl, fun w hS => by go_simp⟩) hHeld ?_
    simp only [Act.put, zq1, zq2, zq3, zq4, zq5, zq6]
    refine wpAnyH_take (i := 19) (v := .slice va bs.length vc) rfl (by kernel_rfl) (by kernel_rfl) (by kernel_rfl) (fun _ _ _ h => absurd h.1 (by simp)) (Or.inl ⟨by rfl, fun w hS => by (have q1 := HR2.out _ hS; go_simp)⟩) hHeld ?_
    simp only [Act.put, zq1, zq2, zq3, zq4, zq5, zq6]
    refine wpAnyH_ready (rs := [20]) (by kernel_rfl) (by simp) ?_
    refine AllReadyH.cons rfl (fun KQ hK => ?_) AllReadyH.nil
    go_simp
    refine (HSM.out _ hHeld).mono ?_
    rintro e z ⟨rfl, rfl⟩
    refine hK.out _ _ (hHeld) (fun hHeld => ?_)
    clear hK KQ
    refine wpAnyH_take (i := 21) (v := .bool false) rfl (by kernel_rfl) (by kernel_rfl) (by kernel_rfl) (fun _ _ _ h => absurd h.1 (by simp)) (Or.inl ⟨by rfl, fun w hS => by go_simp⟩) hHeld ?_
    simp only [Act.put, zq1, zq2, zq3, zq4, zq5, zq6]
    refine wpAnyH_take (i := 22) (v := .bool false) rfl (by kernel_rfl) (by kernel_rfl) (by kernel_rfl) (fun _ _ _ h => absurd h.1 (by simp)) (Or.inl ⟨by rfl, fun w hS => by go_simp⟩) hHeld ?_
    simp only [Act.put, zq1, zq2, zq3, zq4, zq5, zq6]
    refine wpAnyH_done (by kernel_rfl) ?_ _
    refine ⟨rfl, ?_⟩
    have HH := hidden hHeld
    clear hHeld hmk hmk2 i1 i0 hE
    have f50 : Fence.wide.fn 33 := trivial
    have HFin : Hid (∀ w5, A.drew.grownBy w5 (Value.slice ua bs.length uc).ownBlock → Mod (Value.slice ua bs.length uc).ownBlock.toList A w5 ∧ GoI w (.slice (some ⟨g, off, none⟩) m c) stop k w5) := fun w5 hg5 => by
      have m5 : Mod (Value.slice ua bs.length uc).ownBlock.toList A w5 := (Mod.drew _ A).trans' (Mod.of_grown hg5 (fun x hx => by simp [hx]))
      refine ⟨m5, HG.out.low.trans (m5.below HUG.out HG.out.low.size), HG.out.bw.mod m5 (HUB.out _ _ _ HG.out.bw (by decide)), HG.out.bs.mod m5 (HUB.out _ _ _ HG.out.bs (by decide)), HG.out.br.mod m5 (HUB.out _ _ _ HG.out.br (by decide)), HG.out.bn.mod m5 (HUB.out _ _ _ HG.out.bn (by decide))⟩
    have HKP : Hid (∀ w6 S, Mod S A w6 → (∀ x ∈ S, ∃ t cs, Blk A x t cs) → KeepsFrom wA.heap.size A w6) := fun w6 S mS hS => ⟨mS.size, fun x o _ hx ho => by
      rw [mS.block x (Array.getElem?_eq_some_iff.1 hx).1 (fun e => by
        obtain ⟨t, cs, hb⟩ := hS x e
        unfold Blk at hb
        rw [hx] at hb
        injection hb with hb
        rw [hb] at ho
        cases ho)]
      exact hx⟩
    have HUX : Hid (∀ x ∈ (Value.slice ua bs.length uc).ownBlock.toList, ∃ t cs, Blk A x t cs) := fun x hx => HUY.out x hx
    have HG6 : Hid (∀ w5, Mod (Value.slice ua bs.length uc).ownBlock.toList A w5 → GoI w (.slice (some ⟨g, off, none⟩) m c) stop k w5 → Mod ((Value.slice ua bs.length uc).ownBlock.toList ++ [w.heap.size + 1 + 1 + 1]) A (w5.setCell ⟨w.heap.size + 1 + 1 + 1, 0, none⟩ (.int .i64 ((k : Int) + 1))) ∧ GoI w (.slice (some ⟨g, off, none⟩) m c) stop (k + 1) (w5.setCell ⟨w.heap.size + 1 + 1 + 1, 0, none⟩ (.int .i64 ((k : Int) + 1)))) := fun w5 m5 h5 => by
      have m6 : Mod [w.heap.size + 1 + 1 + 1] w5 (w5.setCell ⟨w.heap.size + 1 + 1 + 1, 0, none⟩ (.int .i64 ((k : Int) + 1))) := Mod.setCell _ _ _ _ (by simp)
      refine ⟨(m5.mono (fun x hx => List.mem_append_left _ hx)).trans' (m6.mono (fun x hx => List.mem_append_right _ hx)), h5.low.trans (m6.below (fun x hx => by rw [List.mem_singleton.1 hx]; omega) h5.low.size), h5.bw.mod m6 (by simp; omega), h5.bs.mod m6 (by simp), h5.br.mod m6 (by simp), h5.bn.set 0 _⟩
    have HBX : Hid (∀ x ∈ (Value.slice ua bs.length uc).ownBlock.toList ++ [w.heap.size + 1 + 1 + 1], (∃ t cs, Blk A x t cs) ∧ w.heap.size ≤ x) := fun x hx => by
      rcases List.mem_append.1 hx with hx | hx
      · exact ⟨HUX.out x hx, HUG.out x hx⟩
      · rw [List.mem_singleton.1 hx]
        exact ⟨⟨_, _, HG.out.bn⟩, by omega⟩
    by_cases hst : (k : Int) + 1 = stop
    · subst hst
      gi_wp2_with (first
        | (gi_at_call 33; refine (CallsIn.inRound l (callsIn_wide.2 (HOV.out _ HH.out))).mono ?_; rintro e w5 ⟨rfl, hg5⟩; obtain ⟨m5, hG5⟩ := HFin.out _ hg5; have HM5 := hidden m5; have HG5 := hidden hG5; have c1 : w5.cell? ⟨w.heap.size + 1 + 1 + 1, 0, none⟩ = some (.int .i64 (k : Int)) := (by rw [hG5.bn.cell]; rfl); have c2 : (w5.setCell ⟨w.heap.size + 1 + 1 + 1, 0, none⟩ (.int .i64 ((k : Int) + 1))).cell? ⟨w.heap.size + 1, 0, none⟩ = some (.int .i64 ((k : Int) + 1)) := (by rw [cell_set_ne _ _ _ _ _ _ (by omega), hG5.bs.cell]; rfl); have c3 : (w5.setCell ⟨w.heap.size + 1 + 1 + 1, 0, none⟩ (.int .i64 ((k : Int) + 1))).cell? ⟨w.heap.size + 1 + 1 + 1, 0, none⟩ = some (.int .i64 ((k : Int) + 1)) := World.cell?_setCell_same' _ _ _ (by rw [c1]; rfl); have c4 : (w5.setCell ⟨w.heap.size + 1 + 1 + 1, 0, none⟩ (.int .i64 ((k : Int) + 1))).cell? ⟨w.heap.size + 1 + 1, 0, none⟩ = some (.bool false) := (by rw [cell_set_ne _ _ _ _ _ _ (by omega), hG5.br.cell]; rfl); have z1 : w5.frozen? ⟨w.heap.size + 1 + 1 + 1, 0, none⟩ = false := hG5.bn.frozen 0; have z2 : (w5.setCell ⟨w.heap.size + 1 + 1 + 1, 0, none⟩ (.int .i64 ((k : Int) + 1))).frozen? ⟨w.heap.size + 1 + 1, 0, none⟩ = false := (by rw [World.frozen?_setCell]; exact hG5.br.frozen 0); clear m5 hG5 hg5))
      obtain ⟨m6, h6⟩ := HG6.out w5 HM5.out HG5.out
      generalize w5.setCell ⟨w.heap.size + 1 + 1 + 1, 0, none⟩ (.int .i64 ((k : Int) + 1)) = w6 at m6 h6 ⊢
      have m7 : Mod [w.heap.size + 1 + 1] w6 (w6.setCell ⟨w.heap.size + 1 + 1, 0, none⟩ (.bool true)) := Mod.setCell _ _ _ _ (by simp)
      refine ⟨HKP.out _ ((Value.slice ua bs.length uc).ownBlock.toList ++ [w.heap.size + 1 + 1 + 1] ++ [w.heap.size + 1 + 1]) ((m6.mono (fun x hx => List.mem_append_left _ hx)).trans' (m7.mono (fun x hx => List.mem_append_right _ hx))) (fun x hx => ?_), rfl, h6.br.set 0 _, h6.low.trans (m7.below (fun x hx => by rw [List.mem_singleton.1 hx]; omega) h6.low.size)⟩
      rcases List.mem_append.1 hx with hx | hx
      · exact (HBX.out x hx).1
      · rw [List.mem_singleton.1 hx]
        exact ⟨_, _, HG.out.br⟩
    · have hst' : ((k : Int) + 1 == stop) = false := by simpa using hst
      clear hst
      gi_wp2_with (first
        | (gi_at_call 33; refine (CallsIn.inRound l (callsIn_wide.2 (HOV.out _ HH.out))).mono ?_; rintro e w5 ⟨rfl, hg5⟩; obtain ⟨m5, hG5⟩ := HFin.out _ hg5; have HM5 := hidden m5; have HG5 := hidden hG5; have c1 : w5.cell? ⟨w.heap.size + 1 + 1 + 1, 0, none⟩ = some (.int .i64 (k : Int)) := (by rw [hG5.bn.cell]; rfl); have c2 : (w5.setCell ⟨w.heap.size + 1 + 1 + 1, 0, none⟩ (.int .i64 ((k : Int) + 1))).cell? ⟨w.heap.size + 1, 0, none⟩ = some (.int .i64 stop) := (by rw [cell_set_ne _ _ _ _ _ _ (by omega), hG5.bs.cell]; rfl); have c3 : (w5.setCell ⟨w.heap.size + 1 + 1 + 1, 0, none⟩ (.int .i64 ((k : Int) + 1))).cell? ⟨w.heap.size + 1 + 1 + 1, 0, none⟩ = some (.int .i64 ((k : Int) + 1)) := World.cell?_setCell_same' _ _ _ (by rw [c1]; rfl); have c4 : (w5.setCell ⟨w.heap.size + 1 + 1 + 1, 0, none⟩ (.int .i64 ((k : Int) + 1))).cell? ⟨w.heap.size + 1 + 1, 0, none⟩ = some (.bool false) := (by rw [cell_set_ne _ _ _ _ _ _ (by omega), hG5.br.cell]; rfl); have z1 : w5.frozen? ⟨w.heap.size + 1 + 1 + 1, 0, none⟩ = false := hG5.bn.frozen 0; have z2 : (w5.setCell ⟨w.heap.size + 1 + 1 + 1, 0, none⟩ (.int .i64 ((k : Int) + 1))).frozen? ⟨w.heap.size + 1 + 1, 0, none⟩ = false := (by rw [World.frozen?_setCell]; exact hG5.br.frozen 0); clear m5 hG5 hg5))
      obtain ⟨m6, h6⟩ := HG6.out w5 HM5.out HG5.out
      generalize w5.setCell ⟨w.heap.size + 1 + 1 + 1, 0, none⟩ (.int .i64 ((k : Int) + 1)) = w6 at m6 h6 ⊢
      refine ⟨HKP.out _ _ m6 (fun x hx => (HBX.out x hx).1), m6.below (fun x hx => (HBX.out x hx).2) HG.out.low.size, ?_, ?_⟩
      · rw [List.length_append, List.length_singleton, ← HKE.out]
        exact h6
      · rw [List.length_append, List.length_singleton, ← HKE.out]
        exact HLM.out
  case done =>
    clear hsA hA0
    rintro D xs W hD hxs ⟨hG, _⟩ hK
    have hl : xs.length = m := by rw [HM.out, ← hxs, List.length_map]
    rw [hl] at hG
    have c1 : W.cell? ⟨w.heap.size + 1 + 1 + 1, 0, none⟩ = some (.int .i64 (m : Int)) := by rw [hG.bn.cell]; rfl
    have c2 : W.cell? ⟨w.heap.size, 0, none⟩ = some (.slice a m c) := by rw [hG.bw.cell]; rfl
    have c3 : W.cell? ⟨w.heap.size + 1 + 1, 0, none⟩ = some (.bool false) := by rw [hG.br.cell]; rfl
    have z3 : W.frozen? ⟨w.heap.size + 1 + 1, 0, none⟩ = false := hG.br.frozen 0
    have hB := hG.low
    have hszA := hlA.size
    clear hl hxs hG
    gi_wp2
    have hK' := (KeepsOthers.setCell W ⟨w.heap.size + 1 + 1, 0, none⟩ (.bool true)).same D _ hK rfl
    refine ⟨by simp, .inl ⟨_, _, rfl, run_takeDeferred hK', ?_⟩⟩
    have hc5 := cell_kept (World.cell?_setCell_same' W ⟨w.heap.size + 1 + 1, 0, none⟩ (.bool true) (by rw [c3]; rfl)) (grownBy_putObj' _ D (.deferred none)) (fun r e => by cases e; exact ⟨_, hK', rfl⟩)
    refine ⟨.bool true, ?_, rfl, (setCell_below (w := W) (g := w.heap.size + 1 + 1) 0 (.bool true) hB (by omega)).trans (belowK_b (w := w) (Nat.le_refl _) _ D _ _ (by omega) hK' rfl rfl)⟩
    simp [results, Tryz.f17, go_sem, hc5]
  case stop =>
    clear hsA hA0
    rintro D cc pre W hD _ ⟨rfl, hbr, hB⟩ hK
    have hx : W.cell? ⟨w.heap.size + 1 + 1, 0, none⟩ = some (.bool true) := by rw [hbr.cell]; rfl
    have hszA := hlA.size
    clear hbr
    gi_wp2
    refine ⟨by simp, .inl ⟨_, _, rfl, run_takeDeferred hK, ?_⟩⟩
    have hc5 := cell_kept hx (grownBy_putObj' _ D (.deferred none)) (fun r e => by cases e; exact ⟨_, hK, rfl⟩)
    refine ⟨.bool true, ?_, rfl, hB.trans (belowK_b (w := w) (Nat.le_refl _) W D _ _ (by omega) hK rfl rfl)⟩
    simp [results, Tryz.f17, go_sem, hc5]

end Go.Proofs.YtnnmfgnommbmkaaGreatDoor

namespace Go.Proofs.YtnnmfgnommbmkaaGreatDoor
set_option maxRecDepth 20000
open Go.RowKit

theorem fill13_at (i : Nat) (p q r cs : List Value) (rest : List (Nat × Value)) (hp : p.length = i * 33) (hq : q.length = 33) (hc : cs.length = 33) : Instr.fill (fun i => some (i * 33, 33)) (p ++ (q ++ r)).toArray ((i, .agg cs.toArray) :: rest) = Instr.fill (fun i => some (i * 33, 33)) (p ++ (cs ++ r)).toArray rest := by
  rw [fill_one (fun i => some (i * 33, 33)) i (i * 33) 33 (.agg cs.toArray) cs (p ++ (q ++ r)) rest rfl rfl hc (by simp only [List.length_append]; omega)]
  have e1 : (p ++ (q ++ r)).take (i * 33) = p := by rw [← hp, List.take_left]
  have e2 : (p ++ (q ++ r)).drop (i * 33 + 33) = r := by rw [← hp, ← hq, ← List.append_assoc, ← List.length_append, List.drop_left]
  rw [e1, e2]
  simp only [List.append_assoc]
theorem cut13 (n : Nat) (zs : List Value) (h : zs.length = (n + 1) * 33) : ∃ q r, zs = q ++ r ∧ q.length = 33 ∧ r.length = n * 33 := ⟨zs.take 33, zs.drop 33, (List.take_append_drop 33 zs).symm, by rw [List.length_take]; omega, by rw [List.length_drop]; omega⟩

theorem wpList_three {ops : Array Oper} {rest : List Oper} {op : Oper} {a : Act} {Q : Exit → Act → World → Prop} (w : World) (hgd : op.guard = none) (x0 x1 x2 : Operand) (ho : op.op = .buildSlice 22 3 #[(0, x0), (1, x1), (2, x2)])
    (k0 k1 k2 : List Int) (u0 u1 u2 : Value) (hx0 : a.eval x0 = .agg (encP k0 u0).toArray) (hx1 : a.eval x1 = .agg (encP k1 u1).toArray) (hx2 : a.eval x2 = .agg (encP k2 u2).toArray) (hl0 : k0.length = 32) (hl1 : k1.length = 32) (hl2 : k2.length = 32)
    (hk : wpList Tryz.prog ops Q rest (a.put op.dst (.slice (some ⟨w.heap.size, 0, none⟩) 3 3)) (w.alloc (.cells (encP k0 u0 ++ (encP k1 u1 ++ encP k2 u2)).toArray 42))) : wpList Tryz.prog ops Q (op :: rest) a w := by
  refine wpList_plain hgd fun K hK => ?_
  obtain ⟨i, z, hi, hz, hs, _, hzs⟩ := info_pair
  have hrun := run_buildSlice (P := Tryz.prog) w 22 42 3 #[(0, .agg (encP k0 u0).toArray), (1, .agg (encP k1 u1).toArray), (2, .agg (encP k2 u2).toArray)] (encP k0 u0 ++ (encP k1 u1 ++ encP k2 u2)).toArray i z Tryz.underlying22 hi hz (by rw [hs]; omega) (by rw [hs]; omega) (by
    rw [hs]
    obtain ⟨zs, hzz, hzl⟩ : ∃ zs : List Value, (Array.range (3 * 33)).map (z.cells[· % z.cells.size]!) = zs.toArray ∧ zs.length = 3 * 33 := ⟨_, (Array.toArray_toList).symm, by simp⟩
    rw [hzz, show (#[(0, Value.agg (encP k0 u0).toArray), (1, Value.agg (encP k1 u1).toArray), (2, Value.agg (encP k2 u2).toArray)] : Array (Nat × Value)).toList = [(0, Value.agg (encP k0 u0).toArray), (1, Value.agg (encP k1 u1).toArray), (2, Value.agg (encP k2 u2).toArray)] from rfl]
    have e0 : (encP k0 u0).length = 33 := encP_length _ _ hl0
    have e1 : (encP k1 u1).length = 33 := encP_length _ _ hl1
    have e2 : (encP k2 u2).length = 33 := encP_length _ _ hl2
    obtain ⟨q0, r0, rfl, l0, m0⟩ := cut13 2 zs hzl
    obtain ⟨q1, r1, rfl, l1, m1⟩ := cut13 1 r0 m0
    obtain ⟨q2, r2, rfl, l2, m2⟩ := cut13 0 r1 m1
    obtain rfl : r2 = [] := List.eq_nil_of_length_eq_zero (by simpa using m2)
    have f0 := fill13_at 0 [] q0 (q1 ++ (q2 ++ [])) (encP k0 u0) [(1, .agg (encP k1 u1).toArray), (2, .agg (encP k2 u2).toArray)] rfl l0 e0
    rw [List.nil_append, List.nil_append] at f0
    rw [f0]
    have f1 := fill13_at 1 (encP k0 u0) q1 (q2 ++ []) (encP k1 u1) [(2, .agg (encP k2 u2).toArray)] (by simp [e0]) l1 e1
    rw [f1]
    have f2 := fill13_at 2 (encP k0 u0 ++ encP k1 u1) q2 ([]) (encP k2 u2) [] (by simp [e0, e1]) l2 e2
    simp only [List.append_assoc] at f2
    rw [f2]
    rw [Instr.fill]
    simp)
  unfold Oper.wp execOp
  simp only [ho, List.map_toArray, List.map_cons, List.map_nil, hx0, hx1, hx2, Sem.run_bind, hrun, Result.andThen_ok, Sem.run_pure]
  exact hK _ _ hk

def E3 : List Ent := [(z32, [97]), (kyB 64, [98]), (kyB 128, [99])]
structure Th3 (w : World) (g : Nat) (u0 u1 u2 : Value) : Prop where
  blk : Blk w g 42 (encP z32 u0 ++ (encP (kyB 64) u1 ++ encP (kyB 128) u2)).toArray
  r0 : Reads w u0 [97]
  r1 : Reads w u1 [98]
  r2 : Reads w u2 [99]
theorem ky64 : Key (kyB 64) := kyB_key 64 (by omega) (by omega)
theorem ky128 : Key (kyB 128) := kyB_key 128 (by omega) (by omega)

theorem rng_mid {w : World} {g : Nat} {t : TypeId} {p q r : List Value} {o : Nat} (h : Blk w g t (p ++ (q ++ r)).toArray) (ho : p.length = o) : w.rangeAt g o q := fun j v hv => by
  have hj := (List.getElem?_eq_some_iff.1 hv).1
  rw [h.cell, List.getElem?_toArray, List.getElem?_append_right (by omega), ho, Nat.add_sub_cancel_left, List.getElem?_append_left hj]
  exact hv

theorem Th3.rng {w : World} {g : Nat} {u0 u1 u2 : Value} (h : Th3 w g u0 u1 u2) : w.rangeAt g 0 (encP z32 u0) ∧ w.rangeAt g 33 (encP (kyB 64) u1) ∧ w.rangeAt g 66 (encP (kyB 128) u2) := by
  have e0 : (encP z32 u0).length = 33 := encP_length _ _ z32_length
  have e1 : (encP (kyB 64) u1).length = 33 := encP_length _ _ ky64.1
  refine ⟨rng_mid (p := []) h.blk rfl, rng_mid h.blk e0, rng_mid (t := 42) (p := encP z32 u0 ++ encP (kyB 64) u1) (r := []) ?_ (by rw [List.length_append, e0, e1])⟩
  rw [List.append_nil, List.append_assoc]
  exact h.blk
theorem Th3.all {w : World} {g : Nat} {u0 u1 u2 : Value} (h : Th3 w g u0 u1 u2) : PrAt w (.slice (some ⟨g, 0, none⟩) E3.length 3) (fun i => [u0, u1, u2].getD i undef) E3 := by
  obtain ⟨h0, h1, h2⟩ := h.rng
  refine ⟨_, _, rfl, by decide, fun _ => ⟨g, 0, rfl, fun i hi => ?_⟩, fun i hi => ?_⟩
  · have : i = 0 ∨ i = 1 ∨ i = 2 := by
      have : i < 3 := hi
      omega
    rcases this with rfl | rfl | rfl
    · exact h0
    · exact h1
    · exact h2
  · have : i = 0 ∨ i = 1 ∨ i = 2 := by
      have : i < 3 := hi
      omega
    rcases this with rfl | rfl | rfl
    · exact ⟨key_zero, h.r0⟩
    · exact ⟨ky64, h.r1⟩
    · exact ⟨ky128, h.r2⟩
def fz (w : World) (z : Int) : World := (w.alloc (.cells #[.int .u8 z] 5)).freeze ⟨w.heap.size, 1, none⟩ 1
theorem fz_heap (w : World) (z : Int) : (fz w z).heap = w.heap.push (.cells #[.int .u8 z] 5 (1, 2)) := by
  unfold fz World.freeze
  rw [if_neg (by decide)]
  apply Array.ext
  · simp
  · intro i h1 h2
    simp only [World.alloc, Array.getElem_modify, Array.getElem_push]
    by_cases h : w.heap.size = i
    · subst h
      simp
    · have hi : i < w.heap.size := by
        simp at h1
        omega
      simp [h, hi]
theorem fz_low (w : World) (z : Int) : Below w.heap.size w (fz w z) := by
  have h := fz_heap w z
  refine ⟨?_, ?_, ?_, ?_, fun k hk => ?_⟩
  · unfold fz World.freeze
    rw [if_neg (by decide)]
    rfl
  · unfold fz World.freeze
    rw [if_neg (by decide)]
    rfl
  · unfold fz World.freeze
    rw [if_neg (by decide)]
    rfl
  · rw [h]
    simp
  · rw [h, Array.getElem?_push_lt hk, Array.getElem?_eq_getElem hk]
theorem fz_reads (w : World) (z : Int) (hz : 0 ≤ z ∧ z ≤ 255) : Reads (fz w z) (.slice (some ⟨w.heap.size, 0, none⟩) 1 1) [z] := by
  refine ⟨some ⟨w.heap.size, 0, none⟩, 1, rfl, Nat.le_refl _, (fun e => by cases e), (fun x hx => ?_), fun _ => ⟨w.heap.size, 0, rfl, fun i hi => ?_⟩⟩
  · obtain rfl : x = z := by simpa using hx
    exact hz
  · obtain rfl : i = 0 := by
      have : i < 1 := hi
      omega
    unfold World.cell?
    rw [fz_heap]
    simp
theorem conv_mark (w : World) (z : Int) : (convert 36 36 (.slice (some ⟨w.heap.size, 0, none⟩) 1 1)).run Tryz.prog (w.alloc (.cells #[.int .u8 z] 5)) = .ok (.slice (some ⟨w.heap.size, 0, none⟩) 1 1) (fz w z) := by
  have hsh : (w.alloc (.cells #[Value.int .u8 z] 5)).shape? w.heap.size = some (5, 1) := by
    have : (w.alloc (.cells #[Value.int .u8 z] 5)).heap[w.heap.size]? = some (.cells #[Value.int .u8 z] 5) := Blk.new w _ _
    unfold World.shape?
    rw [this]
    rfl
  simp [convert, run_underlying Tryz.underlying36, run_underlying Tryz.underlying5, markStringish, hsh]
  rfl

set_option maxHeartbeats 2000000 in
theorem three_any (w : World) : Calls Tryz.prog 15 #[] w fun e w' => ∃ g u0 u1 u2, e = .returned (.slice (some ⟨g, 0, none⟩) 3 3) ∧ Th3 w' g u0 u1 u2 ∧ Below w.heap.size w w' := by
  have HB0 := hidden built_k0
  have HB64 := hidden (built_ky 64)
  have HB128 := hidden (built_ky 128)
  have HP0 : Hid (∀ a c, Tryz.prog.built 42 [(0, .agg (B z32)), (1, .slice a 1 c)] = some (encP z32 (.slice a 1 c)).toArray) := fun a c => built_p7 z32 a 1 c z32_length
  have HP1 : Hid (∀ a c, Tryz.prog.built 42 [(0, .agg (B (kyB 64))), (1, .slice a 1 c)] = some (encP (kyB 64) (.slice a 1 c)).toArray) := fun a c => built_p7 (kyB 64) a 1 c ky64.1
  have HP2 : Hid (∀ a c, Tryz.prog.built 42 [(0, .agg (B (kyB 128))), (1, .slice a 1 c)] = some (encP (kyB 128) (.slice a 1 c)).toArray) := fun a c => built_p7 (kyB 128) a 1 c ky128.1
  have hcv := conv_mark
  go_enter Tryz.func15, Tryz.ntmps15
  go_wp2_with (first
    | ((with_reducible refine at_bdd 1 ?_); refine wpList_bld _ rfl _ _ rfl _ (by rw [List.map_toArray]; exact HB0.out) ?_)
    | ((with_reducible refine at_bdd 5 ?_); refine wpList_bld _ rfl _ _ rfl _ (by rw [List.map_toArray]; exact HB64.out) ?_)
    | ((with_reducible refine at_bdd 9 ?_); refine wpList_bld _ rfl _ _ rfl _ (by rw [List.map_toArray]; exact HB128.out) ?_)
    | ((with_reducible refine at_bdd 4 ?_); refine wpList_bld _ rfl _ _ rfl _ (by rw [List.map_toArray]; exact HP0.out _ _) ?_)
    | ((with_reducible refine at_bdd 8 ?_); refine wpList_bld _ rfl _ _ rfl _ (by rw [List.map_toArray]; exact HP1.out _ _) ?_)
    | ((with_reducible refine at_bdd 12 ?_); refine wpList_bld _ rfl _ _ rfl _ (by rw [List.map_toArray]; exact HP2.out _ _) ?_)
    | (refine wpList_three _ rfl _ _ _ rfl z32 (kyB 64) (kyB 128) _ _ _ rfl rfl rfl z32_length ky64.1 ky128.1 ?_))
  go_ret
  have a1 := fz_low w 97
  have r0 := fz_reads w 97 (by omega)
  generalize fz w 97 = w1 at *
  have a2 := fz_low w1 98
  have r1 := fz_reads w1 98 (by omega)
  generalize fz w1 98 = w2 at *
  have a3 := fz_low w2 99
  have r2 := fz_reads w2 99 (by omega)
  generalize fz w2 99 = w3 at *
  have a4 := grow_alloc w3 (.cells (encP z32 (.slice (some ⟨w.heap.size, 0, none⟩) 1 1) ++ (encP (kyB 64) (.slice (some ⟨w1.heap.size, 0, none⟩) 1 1) ++ encP (kyB 128) (.slice (some ⟨w2.heap.size, 0, none⟩) 1 1))).toArray 42)
  exact ⟨_, _, _, _, rfl, ⟨Blk.new _ _ _, ((r0.grow a2).grow a3).grow a4, (r1.grow a3).grow a4, r2.grow a4⟩, grow_trans (grow_trans (grow_trans a1 a2) a3) a4⟩

end Go.Proofs.YtnnmfgnommbmkaaGreatDoor

namespace Go.Proofs.YtnnmfgnommbmkaaGreatDoor
set_option maxRecDepth 20000
open Go.RowKit

theorem perm_rise {α : Type} {R : α → α → Prop} (hR : ∀ a b, R a b → R b a → False) : ∀ (l m : List α), l.Perm m → l.Pairwise R → m.Pairwise R → l = m
  | [], m, h, _, _ => by
    have := h.length_eq
    cases m with
    | nil => rfl
    | cons _ _ => simp at this
  | a :: l, [], h, _, _ => by
    have := h.length_eq
    simp at this
  | a :: l, b :: m, h, h1, h2 => by
    rw [List.pairwise_cons] at h1 h2
    have hab : a = b := by
      have ha : a ∈ b :: m := h.mem_iff.1 (by simp)
      have hb : b ∈ a :: l := h.mem_iff.2 (by simp)
      rcases List.mem_cons.1 ha with e | ha
      · exact e
      · rcases List.mem_cons.1 hb with e | hb
        · exact e.symm
        · exact (hR a b (h1.1 b hb) (h2.1 a ha)).elim
    subst hab
    rw [perm_rise hR l m (List.perm_cons _ |>.1 h) h1.2 h2.2]

theorem e3_rise : E3.Pairwise fun a b => Ahead a.1 b.1 := by
  have h1 : Ahead z32 (kyB 64) := ahead_of_byte key_zero ky64 0 (by omega) (fun j hj => by omega) (by decide)
  have h2 : Ahead (kyB 64) (kyB 128) := ahead_of_byte ky64 ky128 0 (by omega) (fun j hj => by omega) (by decide)
  have h3 : Ahead z32 (kyB 128) := ahead_of_byte key_zero ky128 0 (by omega) (fun j hj => by omega) (by decide)
  unfold E3
  refine List.Pairwise.cons (fun b hb => ?_) (List.Pairwise.cons (fun b hb => ?_) (List.pairwise_singleton _ _))
  · simp only [List.mem_cons, List.not_mem_nil, or_false] at hb
    rcases hb with rfl | rfl
    · exact h1
    · exact h3
  · simp only [List.mem_cons, List.not_mem_nil, or_false] at hb
    subst hb
    exact h2
theorem e3_of {cs : List (Nat × Ce)} {k root : Nat} {T : Tre} (W : Wf cs []) (f : FlI cs k root T E3) : T.ents = E3 := perm_rise (R := fun a b : Ent => Ahead a.1 b.1) (fun _ _ h h' => h.not h') _ _ f.ents (ents_rise W T root f.rt.tree) e3_rise
theorem e3_apart : E3.Pairwise fun x y => x.1 ≠ y.1 := e3_rise.imp (fun h e => by rw [e] at h; exact h.ne)
theorem e3_small : ∀ e ∈ E3, e.2.length ≤ 1024 := by
  intro e he
  simp only [E3, List.mem_cons, List.not_mem_nil, or_false] at he
  rcases he with rfl | rfl | rfl <;> decide
theorem e3_rank : ahd (kyB 128) E3 = 2 ∧ ahd z32 E3 = 0 := ⟨by kernel_rfl, by kernel_rfl⟩

structure Fw (w : World) (g : Nat) (cs : List (Nat × Ce)) (root : Nat) (T : Tre) : Prop where
  li : LiR w (some ⟨g, 0, none⟩) cs root T
  ents : T.ents = E3
theorem Fw.grow {w w' : World} {g root : Nat} {cs : List (Nat × Ce)} {T : Tre} (h : Fw w g cs root T) (hb : Below w.heap.size w w') : Fw w' g cs root T := ⟨h.li.grow hb, h.ents⟩

theorem filled3 {w : World} {g0 : Nat} {u0 u1 u2 : Value} (h : Th3 w g0 u0 u1 u2) (hL : Laid w) : Calls Tryz.prog 6 #[.slice (some ⟨g0, 0, none⟩) 3 3] w fun e w' => ∃ g cs root T, e = .returned (.tuple #[.pointer (some ⟨g, 0, none⟩), .int .i64 ((root : Nat) : Int), .bool true]) ∧ Fw w' g cs root T ∧ Below w.heap.size w w' := by
  refine (filled_any h.all (by decide) e3_apart e3_small hL).mono ?_
  rintro e w' ⟨g, gs, cs, fr, root, T, rfl, hH, hF⟩
  exact ⟨g, cs, root, T, rfl, ⟨hF.lir hH (by decide), e3_of hH.2 hF⟩, hH.low⟩

theorem wpList_ldw13 {ops : Array Oper} {rest : List Oper} {op : Oper} {a : Act} {Q : Exit → Act → World → Prop} (w : World) (hgd : Region.wanted op (yielded ops a.tmps) = true) (ty : TypeId) (x : Operand) (ho : op.op = .load ty x) (b off : Nat) (hx : a.eval x = .pointer (some ⟨b, off, none⟩)) (cs : List Value) (hc : w.rangeAt b off cs) (d : TypeDesc) (hu : Tryz.prog.underlying ty = some d) (hd : d.isRow = true) (hi : (Tryz.prog.info? ty).map (·.size) = some cs.length)
    (h : wpList Tryz.prog ops Q rest (a.put op.dst (.agg cs.toArray)) w) : wpList Tryz.prog ops Q (op :: rest) a w :=
  BigFrame.wpList_want hgd fun _ hK => wp_load_mid ty x ho b off hx cs d hc hu hd hi (hK _ _ h)
theorem wpList_bld13 {ops : Array Oper} {rest : List Oper} {op : Oper} {a : Act} {Q : Exit → Act → World → Prop} (w : World) (hgd : Region.wanted op (yielded ops a.tmps) = true) (ty : TypeId) (parts : Array (Nat × Operand)) (ho : op.op = .build ty parts)
    (cs : Array Value) (h : Tryz.prog.built ty (parts.map fun (i, x) => (i, a.eval x)).toList = some cs)
    (hk : wpList Tryz.prog ops Q rest (a.put op.dst (.agg cs)) w) : wpList Tryz.prog ops Q (op :: rest) a w := by
  refine BigFrame.wpList_want hgd fun K hK => ?_
  unfold Oper.wp
  rw [exec_blc op a ty parts ho cs h w]
  exact hK _ _ hk

theorem blk_key {w : World} {g : Nat} {K : List Int} {u : Value} (h : Blk w g 42 (encP K u).toArray) : w.rangeAt g 0 (B K).toList := fun j v hv => by
  rw [B_toList] at hv
  have hj : j < K.length := by
    have := (List.getElem?_eq_some_iff.1 hv).1
    simpa using this
  rw [Nat.zero_add, h.cell, List.getElem?_toArray, encP, List.getElem?_append_left (by simpa using hj)]
  exact hv
theorem blk_val {w : World} {g : Nat} {K : List Int} {u : Value} (h : Blk w g 42 (encP K u).toArray) (hK : K.length = 32) : w.cell? ⟨g, 32, none⟩ = some u := by
  rw [h.cell, List.getElem?_toArray, encP, List.getElem?_append_right (by simp [hK])]
  simp [hK]

set_option maxRecDepth 100000 in
set_option maxHeartbeats 4000000 in
theorem awake13_any (w : World) (hL : Laid w) : Calls Tryz.prog 4 #[] w fun e w' => e = .returned (.bool true) ∧ Below w.heap.size w w' := by
  have HTH : Hid (∀ w', Calls Tryz.prog 15 #[] w' fun e w'' => ∃ g u0 u1 u2, e = .returned (.slice (some ⟨g, 0, none⟩) 3 3) ∧ Th3 w'' g u0 u1 u2 ∧ Below w'.heap.size w' w'') := three_any
  have HLD : Hid (∀ w', Below w.heap.size w w' → Laid w') := fun w' hb => hL.grow hb
  have HB64 := hidden (built_ky 64)
  have HB128 := hidden (built_ky 128)
  have hE := path_eq (kyB 64) (kyB 64) ky64.1 ky64.1
  simp only [decide_true] at hE
  have HKL := hidden (pth_ln (kyB 64) ky64.1)
  have HSz : Hid (∀ u, (Tryz.prog.info? 42).map (·.size) = some (encP (kyB 64) u).toArray.size ∧ (encP z32 (.slice none 0 0)).toArray.size = (encP (kyB 64) u).toArray.size) := fun u => encP_sz ky64.1
  clear hL
  go_enter Tryz.func4, Tryz.ntmps4
  go_wp2_with (first
    | (go_at_call 15; refine (HTH.out _).mono ?_; rintro e w1 ⟨g0, u0, u1, u2, rfl, h3, b1⟩; have H3 := hidden h3; have HQ1 := hidden b1; clear h3 b1)
    | (go_at_call 6; refine (filled3 H3.out (HLD.out _ HQ1.out)).mono ?_; rintro e w2 ⟨g, cs, root, T, rfl, hF, b2⟩; have HF := hidden hF; have HQ2 := hidden (grow_trans HQ1.out b2); clear hF b2; have HCO : Hid (∀ w', Below w2.heap.size w2 w' → Calls Tryz.prog 16 #[.pointer (some ⟨g, 0, none⟩), .int .i64 (root : Int)] w' fun e w'' => e = .returned (.tuple #[.int .i64 3, .int .i64 0]) ∧ Below w'.heap.size w' w'') := (fun w' hb => by have := (HF.out.grow hb).li.count; rw [HF.out.ents] at this; exact this); have HRK : Hid (∀ w', Below w2.heap.size w2 w' → Calls Tryz.prog 10 #[.pointer (some ⟨g, 0, none⟩), .int .i64 (root : Int), .agg (B (kyB 128))] w' fun e w'' => e = .returned (.tuple #[.int .i64 2, .int .i64 0]) ∧ Below w'.heap.size w' w'') := (fun w' hb => by have := (HF.out.grow hb).li.rank (kyB 128) ky128; rw [HF.out.li.rkd _ ky128, HF.out.ents, e3_rank.1] at this; exact this); have HNT : Hid (∀ w', Below w2.heap.size w2 w' → Calls Tryz.prog 11 #[.pointer (some ⟨g, 0, none⟩), .int .i64 (root : Int), .int .i64 1] w' fun e w'' => ∃ a c, e = .returned (.tuple #[.agg (encP (kyB 64) (.slice a 1 c)).toArray, .int .i64 0]) ∧ Reads w'' (.slice a 1 c) [98] ∧ Below w'.heap.size w' w'') := (fun w' hb => nth_any (HF.out.grow hb).li 1 (kyB 64) [98] (by rw [HF.out.ents]; rfl)); have HAL : Hid (∀ w', Below w2.heap.size w2 w' → Calls Tryz.prog 7 #[.pointer (some ⟨g, 0, none⟩), .int .i64 (root : Int)] w' (OvPost w' E3)) := (fun w' hb => by have := all_any (HF.out.grow hb).li; rw [HF.out.ents] at this; exact this))
    | (go_at_call 16; refine (HCO.out _ (Below.refl _ _)).mono ?_; rintro e w3 ⟨rfl, b3⟩; have HQ3 := hidden b3; clear b3)
    | ((with_reducible refine at_bdd 25 ?_); refine wpList_bld _ rfl _ _ rfl _ (by rw [List.map_toArray]; exact HB128.out) ?_)
    | (go_at_call 10; refine (HRK.out _ HQ3.out).mono ?_; rintro e w4 ⟨rfl, b4⟩; have HQ4 := hidden (grow_trans HQ3.out b4); clear b4)
    | (go_at_call 11; refine (HNT.out _ HQ4.out).mono ?_; rintro e w5 ⟨a5, c5, rfl, hr5, b5⟩; have HR5 := hidden hr5; have HQ5 := hidden (grow_trans HQ4.out b5); clear b5 hr5)
    | ((with_reducible refine at_ald 8 ?_); refine wpList_al _ rfl _ rfl _ zero_pair ?_; intro w6 g8 hg8 hl8 B8 b6; have HB8 := hidden B8; have HG8 : Hid (w5.heap.size ≤ g8) := hg8; have HQ56 := hidden b6; clear B8 hg8 hl8 b6)
    | ((with_reducible refine at_st 8 ?_); refine wpList_sto _ rfl _ _ _ rfl g8 _ (encP (kyB 64) (.slice a5 1 c5)).toArray rfl rfl HB8.out (HSz.out _).1 (HSz.out _).2 (encP_one _ _ _ _) ?_; intro w7 B9 r9; have HB9 := hidden B9; have HQ57 := hidden (below_row HQ56.out r9 HG8.out); have HQ7 := hidden (grow_trans HQ5.out HQ57.out); have c32 : w7.cell? ⟨g8, 32, none⟩ = some (.slice a5 1 c5) := blk_val HB9.out ky64.1; have hcv : (convert 36 9 (.slice a5 1 c5)).run Tryz.prog w7 = .ok (.string { data := #[98] }) w7 := conv_reads (HR5.out.grow HQ57.out); clear B9 r9)
    | (refine wpList_ldw13 _ rfl 32 (.tmp 53) rfl g8 0 rfl (B (kyB 64)).toList (blk_key HB9.out) _ Tryz.underlying32 rfl HKL.out ?_; rw [show (B (kyB 64)).toList.toArray = B (kyB 64) from Array.toArray_toList])
    | ((with_reducible refine at_bdd 55 ?_); refine wpList_bld13 _ rfl _ _ rfl _ (by rw [List.map_toArray]; exact HB64.out) ?_)
    | (go_at_call 7; refine (HAL.out _ HQ7.out).mono ?_; rintro e w8 ⟨b8, rfl, _, hO, q8⟩; have HO8 := hidden hO; have HQ8 := hidden (grow_trans HQ7.out q8); clear hO q8)
    | (go_at_call 17; refine (gone13_any (HO8.out.grow HQ1.out) (by decide) (fun e he => Nat.le_trans (e3_small e he) (by omega)) _ _ _ H3.out.all 0).mono ?_; rintro e w9 ⟨rfl, b9⟩; have HQ9 := hidden b9; clear b9))
  go_ret
  exact ⟨rfl, grow_trans (grow_trans (grow_trans HQ2.out HQ8.out) HQ1.out) HQ9.out⟩

end Go.Proofs.YtnnmfgnommbmkaaGreatDoor
