/- node.leavesOf, as a contract. -/
import Derived.Test.YtjcklpdifanjlaaDoorOr33
import Derived.Test.YtjcklpdifanjlaaDoorOr29
import Derived.Test.YtjcklpdifanjlaaDoorOr32
namespace Go.Proofs.YtjcklpdifanjlaaDoor
set_option maxRecDepth 20000
open Go.RowKit

/-- What leavesOf tells of entries that may be. -/
def LvPost (es : List Ent) (w : World) (e : Ending) (w' : World) : Prop :=
  ∃ v ls, e = .returned (.tuple #[v, .int .i64 0]) ∧ LvAt w' v ls ∧ ls.Perm (es.map mkLf) ∧ Rise ls ∧ Below w.heap.size w w'

set_option maxHeartbeats 1000000 in
theorem leavesOf_bad (v : Value) (V : Nat → Value) (es : List Ent) (w : World) (hv : PrAt w v V es) (hn : es.length ≤ 140737488355328) (hE : errB es ≠ 0) :
    Calls Tryd.prog 52 #[v] w fun e w' => e = .returned (.tuple #[.slice none 0 0, .int .i64 (errB es)]) ∧ Below w.heap.size w w' := by
  have HM := hidden (mayBe_any v V es w hv hn)
  obtain ⟨a, cap, rfl, _, _, _⟩ := hv
  obtain ⟨E, hEE⟩ : ∃ E, E = errB es := ⟨_, rfl⟩
  rw [← hEE] at HM hE ⊢
  have h1 : (E != 0) = true := by simp [hE]
  have h2 : (E == 0) = false := by simp [hE]
  clear hEE hE
  go_enter Tryd.func52, Tryd.ntmps52
  go_wp2_with (go_at_call 75; refine HM.out.mono ?_; rintro e w1 ⟨rfl, b1⟩)
  go_ret2
  exact ⟨rfl, b1⟩

set_option maxRecDepth 100000 in
set_option maxHeartbeats 8000000 in
theorem leavesOf_ok (v : Value) (V : Nat → Value) (es : List Ent) (w : World) (hv : PrAt w v V es) (hn : es.length ≤ 4096) (hL : Laid w) (hE : errB es = 0) :
    Calls Tryd.prog 52 #[v] w (LvPost es w) := by
  have HM := hidden (mayBe_any v V es w hv (by omega))
  rw [hE] at HM
  have hls : lsE [] es = 0 := by rw [errB, if_neg (by omega)] at hE; exact hE
  obtain ⟨hlen, hap, _⟩ := lsE_ok [] es hls
  have hkeys := hv.keys
  have HPost : Hid (∀ w' v' ls, LvAt w' v' ls → ls.Perm (es.map mkLf) → Rise ls → Below w.heap.size w w' → LvPost es w (.returned (.tuple #[v', .int .i64 0])) w') := fun w' v' ls h1 h2 h3 h4 => ⟨v', ls, rfl, h1, h2, h3, h4⟩
  have HNE : Hid ((es.map mkLf).Pairwise fun a b => a.key ≠ b.key) := by
    show List.Pairwise _ _
    rw [List.pairwise_map]
    refine List.Pairwise.imp_of_mem ?_ hap
    intro a b ha hb hab
    rw [mkLf_key (hkeys a ha), mkLf_key (hkeys b hb)]
    exact hab
  have HLN : Hid (∀ k, k < es.length → (es.getD k e00).2.length ≤ 1024) := by
    intro k hk
    have := hlen es[k] (List.getElem_mem hk)
    simpa [List.getD, hk] using this
  have HL := hidden hL
  obtain ⟨a, cap, rfl, hcap, hc, hr⟩ := hv
  have HC := hidden hc
  have HR := hidden hr
  obtain ⟨n, hnn⟩ : ∃ n, n = es.length := ⟨_, rfl⟩
  have HN := hidden hnn
  rw [← hnn] at HM hn ⊢
  clear hc hr hcap hnn hE hls hlen hap hkeys hL
  go_enter Tryd.func52, Tryd.ntmps52
  go_wp2_with (first
    | (go_at_call 75; refine HM.out.mono ?_; rintro e w1 ⟨rfl, b1⟩)
    | (refine wpList_mkn _ rfl _ _ rfl n rfl rfl hn ?_; intro w2 g cs hg2 Bg hcs b2))
  have HG : Hid (w.heap.size ≤ g) := Nat.le_trans b1.size hg2
  have HR0 : Hid (Rows w2 g n []) := ⟨fun i hi => by simp at hi, fun i hi => Bg.there _ _ (by rw [hcs]; omega)⟩
  have HGL : Hid (g < w2.heap.size) := Bg.lt
  have c2 := grow_trans b1 b2
  clear Bg hcs hg2 b1 b2 cs HM
  go_loopw [18] (fun i wr => ∃ k : Nat, k ≤ n ∧ i = .int .i64 k ∧ Hid (Rows wr g n ((es.take k).map mkLf)) ∧ Hid (g < wr.heap.size) ∧ Below w.heap.size w wr) (fun i _ => n - (intOf i).toNat)
  case atStart => exact ⟨0, by omega, rfl, HR0, HGL, c2⟩
  case round =>
    obtain ⟨k, hk, rfl, hrows, hgl, hbw⟩ := hrel
    by_cases hlt : k < n
    · have hlt' : k < es.length := by rw [← HN.out]; exact hlt
      obtain ⟨ga, off, rfl, hcc⟩ := HC.out (by omega)
      have z1 : (k : Int) < (n : Int) := by omega
      have z0 : (0 : Int) ≤ (k : Int) := by omega
      obtain ⟨hkey, hrd⟩ := HR.out k hlt'
      have HRG : Hid (wr.rangeAt ga (off + k * 33) (encP (es.getD k e00).1 (V k))) := rng_grow (hcc k hlt') hbw
      have hlv := HLN.out k hlt'
      have HV : Hid (∀ w', Below w.heap.size w w' → Laid w' → Calls Tryd.prog 76 #[V k] w' fun e w'' => e = .returned (.agg (B (vaD (es.getD k e00).2))) ∧ Below w'.heap.size w' w'') := fun w' hb hl => value_any (V k) _ w' (hrd.grow hb) hl (by omega)
      have HX : Hid (encLf (mkLf (es.getD k e00)) = (B (nd 1 (es.getD k e00).1 (vaD (es.getD k e00).2) z32 z32)).toList) := by
        show _ = _
        rw [B_toList, encLf, Lf.ints, mkLf_key hkey, mkLf_val hkey]
      have HBL : Hid (Tryd.prog.built 27 [(0, .int .u8 1), (1, .agg (B (es.getD k e00).1)), (2, .agg (B (vaD (es.getD k e00).2)))] = some (B (nd 1 (es.getD k e00).1 (vaD (es.getD k e00).2) z32 z32))) := built_leaf _ _ hkey.1 (dig_length _)
      have HT : Hid ((es.take (k + 1)).map mkLf = (es.take k).map mkLf ++ [mkLf (es.getD k e00)]) := by
        show _ = _
        rw [List.take_add_one, List.map_append]
        simp [List.getD, hlt']
      have HTL : Hid (((es.take k).map mkLf).length = k) := by show _ = _; simp; omega
      have HNS : Hid ((B (nd 1 (es.getD k e00).1 (vaD (es.getD k e00).2) z32 z32)).size = 129) := by
        have : Nd 1 (es.getD k e00).1 (vaD (es.getD k e00).2) z32 z32 := ⟨by omega, by omega, hkey.1, dig_length _, rfl, rfl, hkey.2, dig_bytes _, z32_bytes, z32_bytes⟩
        exact this.size
      obtain ⟨va, vc, hV, _, _, _, _⟩ := hrd
      obtain ⟨K, hK⟩ : ∃ K, K = (es.getD k e00).1 := ⟨_, rfl⟩
      obtain ⟨Z, hZ⟩ : ∃ Z, Z = (es.getD k e00).2 := ⟨_, rfl⟩
      obtain ⟨x, hx⟩ : ∃ x, x = mkLf (es.getD k e00) := ⟨_, rfl⟩
      obtain ⟨ls, hlsd⟩ : ∃ ls, ls = (es.take k).map mkLf := ⟨_, rfl⟩
      rw [← hx] at HX HT
      rw [← hlsd] at HT HTL hrows
      rw [← hK] at HRG hkey HX HBL HNS
      rw [← hZ] at HV HX hV HBL HNS
      obtain ⟨A, hA⟩ : ∃ A, A = vaD Z := ⟨_, rfl⟩
      rw [← hA] at HV HX HBL HNS
      obtain ⟨N, hNd⟩ : ∃ N, N = nd 1 K A z32 z32 := ⟨_, rfl⟩
      rw [← hNd] at HX HBL HNS
      rw [hV] at HRG HV
      obtain ⟨L, hLL⟩ : ∃ L, L = Z.length := ⟨_, rfl⟩
      rw [← hLL] at HRG HV
      have HKY := hidden hkey
      have hsz : (Tryd.prog.info? 75).map (·.size) = some (encP K (.slice va L vc)).toArray.size := by rw [List.size_toArray, encP_length K _ HKY.out.1]; exact size_pair
      have hsz2 : (encP z32 (.slice none 0 0)).toArray.size = (encP K (.slice va L vc)).toArray.size := by rw [List.size_toArray, List.size_toArray, encP_length K _ HKY.out.1]; rfl
      have HSZ := hidden hsz
      have HSZ2 := hidden hsz2
      have HLK : Hid ((Tryd.prog.info? 24).map (·.size) = some (B K).toList.length) := by show _ = _; rw [B_toList, List.length_map, HKY.out.1]; exact sz_path
      clear hcc hK hZ hV hkey hx hlsd hsz hsz2 hlt' hA hNd hLL hlv
      go_wp2_with (first
        | ((with_reducible refine at_ldd 22 21 ?_); refine wpList_ldp _ rfl _ rfl ga (off + k * 33) K _ rfl HRG.out HKY.out.1 ?_)
        | ((with_reducible refine at_ald 7 ?_); refine wpList_al _ rfl _ rfl _ zero_pair ?_; intro w2 g7 hg7 hl7 B7 q7)
        | ((with_reducible refine at_st 7 ?_); refine wpList_sto _ rfl _ _ _ rfl g7 _ _ rfl rfl B7 HSZ.out HSZ2.out (encP_one _ _ _ _) ?_; intro w3 B8 r8; have q8 := below_row q7 r8 hg7))
      have HS : Hid (∀ w', Below w3.heap.size w3 w' → w'.rangeAt g7 0 (B K).toList ∧ w'.cell? ⟨g7, 32, none⟩ = some (.slice va L vc)) := fun w' hw' => ⟨pair_key (B8.grow hw'), pair_val (B8.grow hw') HKY.out.1⟩
      have d0 : Below w3.heap.size w3 w3.drew := (Below.refl _ _).drew
      have hb3 := grow_trans hbw q8
      have HROW : Hid (Rows w3 g n ls) := hrows.out.grow q8
      have HG3 : Hid (g ≠ g7) := by
        have h1 := hgl.out
        intro e
        subst e
        omega
      clear hrows B7 q7 r8 hg7 hl7 B8 HRG
      refine wp_region_held_drew (S := fun w' => w'.rangeAt g7 0 (B K).toList ∧ w'.cell? ⟨g7, 32, none⟩ = some (.slice va L vc)) (by kernel_rfl) (HS.out _ d0) (fun hHeld => ?_)
      refine wpAnyH_take (i := 0) (v := .slice (some ⟨g, 0, none⟩) n n) rfl (by kernel_rfl) (by kernel_rfl) (by kernel_rfl) (fun _ _ _ h => h) (Or.inl ⟨by rfl, fun w hS => by go_simp⟩) hHeld ?_
      simp only [Act.put, List.getElem_toArray, List.getElem_cons_zero, List.setIfInBounds_toArray, List.set_cons_zero, List.set_cons_succ]
      refine wpAnyH_take (i := 1) (v := .int .i64 k) rfl (by kernel_rfl) (by kernel_rfl) (by kernel_rfl) (fun _ _ _ h => h) (Or.inl ⟨by rfl, fun w hS => by go_simp⟩) hHeld ?_
      simp only [Act.put, List.getElem_toArray, List.getElem_cons_zero, List.getElem_cons_succ, List.setIfInBounds_toArray, List.set_cons_zero, List.set_cons_succ]
      refine wpAnyH_take (i := 2) (v := .pointer (some ⟨g7, 0, none⟩)) rfl (by kernel_rfl) (by kernel_rfl) (by kernel_rfl) (fun _ _ _ h => h) (Or.inl ⟨by rfl, fun w hS => by go_simp⟩) hHeld ?_
      simp only [Act.put, List.getElem_toArray, List.getElem_cons_zero, List.getElem_cons_succ, List.setIfInBounds_toArray, List.set_cons_zero, List.set_cons_succ]
      refine wpAnyH_take (i := 3) (v := .agg (B K)) rfl (by kernel_rfl) (by kernel_rfl) (by kernel_rfl) (fun _ _ _ h => h) (yieldsIf_load_mid rfl 24 (.tmp 25) rfl g7 0 rfl (B K).toList _ (fun w hS => hS.1) Tryd.underlying24 rfl HLK.out) hHeld ?_
      simp only [Act.put, List.getElem_toArray, List.getElem_cons_zero, List.getElem_cons_succ, List.setIfInBounds_toArray, List.set_cons_zero, List.set_cons_succ]
      refine wpAnyH_take (i := 4) (v := .pointer (some ⟨g7, 32, none⟩)) rfl (by kernel_rfl) (by kernel_rfl) (by kernel_rfl) (fun _ _ _ h => h) (Or.inl ⟨by rfl, fun w hS => by go_simp⟩) hHeld ?_
      simp only [Act.put, List.getElem_toArray, List.getElem_cons_zero, List.getElem_cons_succ, List.setIfInBounds_toArray, List.set_cons_zero, List.set_cons_succ]
      refine wpAnyH_take (i := 5) (v := .slice va L vc) rfl (by kernel_rfl) (by kernel_rfl) (by kernel_rfl) (fun _ _ _ h => h) (Or.inl ⟨by rfl, fun w hS => by (have s1 := hS.2; go_simp)⟩) hHeld ?_
      simp only [Act.put, List.getElem_toArray, List.getElem_cons_zero, List.getElem_cons_succ, List.setIfInBounds_toArray, List.set_cons_zero, List.set_cons_succ]
      refine wpAnyH_ready (rs := [6]) (by kernel_rfl) (by simp) ?_
      refine AllReadyH.cons rfl (fun KQ hK => ?_) AllReadyH.nil
      go_simp
      refine (HV.out _ (grow_trans hb3 d0) (HL.out.grow (grow_trans hb3 d0))).mono ?_
      rintro e x1 ⟨rfl, a1⟩
      have d1 := grow_trans d0 a1
      refine hK.out _ _ (HS.out _ d1) (fun hHeld => ?_)
      clear hK KQ
      refine wpAnyH_take (i := 7) (v := .agg (B N)) rfl (by kernel_rfl) (by kernel_rfl) (by kernel_rfl) (fun _ _ _ h => h) (Or.inl ⟨by rfl, fun w hS => exec_bd _ _ 27 _ (by rfl) (B N) (by rw [List.map_toArray]; exact HBL.out) w⟩) hHeld ?_
      simp only [Act.put, List.getElem_toArray, List.getElem_cons_zero, List.getElem_cons_succ, List.setIfInBounds_toArray, List.set_cons_zero, List.set_cons_succ]
      refine wpAnyH_take (i := 8) (v := .pointer (some ⟨g, k * 129, none⟩)) rfl (by kernel_rfl) (by kernel_rfl) (by kernel_rfl) (fun _ _ _ h => h) (Or.inl ⟨by rfl, fun w hS => by go_simp⟩) hHeld ?_
      simp only [Act.put, List.getElem_toArray, List.getElem_cons_zero, List.getElem_cons_succ, List.setIfInBounds_toArray, List.set_cons_zero, List.set_cons_succ]
      refine wpAnyH_ready (rs := [9]) (by kernel_rfl) (by simp) ?_
      refine AllReadyH.cons rfl (fun KQ hK => ?_) AllReadyH.nil
      have HRW := HROW.out.grow d1
      refine step_stL _ rfl _ _ _ rfl g (k * 129) (B N) rfl rfl (by rw [HNS.out]; exact HRW.2 k hlt) (by rw [HNS.out]; exact size_node) (B_one _) ?_
      have c4 : Below w.heap.size w (x1.setCells g (k * 129) (B N).toList) := setCells_below HG.out _ _ _ (grow_trans hb3 d1)
      have hput := HRW.put x (by rw [HTL.out]; exact hlt)
      rw [HTL.out, HX.out, ← HT.out] at hput
      have HPT := hidden hput
      have hS9 : (x1.setCells g (k * 129) (B N).toList).rangeAt g7 0 (B K).toList ∧ (x1.setCells g (k * 129) (B N).toList).cell? ⟨g7, 32, none⟩ = some (.slice va L vc) := by
        have h1 := HS.out _ d1
        have h2 : x1.rangeAt g7 32 [.slice va L vc] := fun j v hv => by
          obtain ⟨h3, h4⟩ := List.getElem?_eq_some_iff.1 hv
          have : j = 0 := by simpa using h3
          subst this
          have : Value.slice va L vc = v := by simpa using h4
          rw [← this]
          exact h1.2
        refine ⟨World.rangeAt_setCells_apart h1.1 _ _ _ (.inl (Ne.symm HG3.out)), ?_⟩
        have h5 := World.rangeAt_setCells_apart h2 g (k * 129) (B N).toList (.inl (Ne.symm HG3.out))
        exact h5 0 _ rfl
      refine hK.out _ _ hS9 (fun hHeld => ?_)
      clear hK KQ hput hS9 HRW
      refine wpAnyH_done (by kernel_rfl) ?_ _
      generalize x1.setCells g (k * 129) (B N).toList = x2 at c4 HPT ⊢
      have hg2 : Hid (g < x2.heap.size) := by
        obtain ⟨h1, _⟩ := HPT.out.2 k hlt 0 (by omega)
        obtain ⟨u, hu⟩ := Option.isSome_iff_exists.1 h1
        exact block_lt_of_cell hu
      go_wp2_with fail
      exact ⟨⟨k + 1, by omega, by go_num, HPT, hg2, c4⟩, by simp [intOf]; omega⟩
    · have hkn : k = es.length := by rw [← HN.out]; omega
      have z1 : ¬ (k : Int) < (n : Int) := by omega
      have HTK : Hid ((es.take k).map mkLf = es.map mkLf) := by show _ = _; rw [hkn, List.take_length]
      rw [HTK.out] at hrows
      have HSO : Hid (Calls Tryd.prog 77 #[.slice (some ⟨g, 0, none⟩) n n, .func (.func 78) #[] #[]] wr fun e w' => e = .returned (.tuple #[]) ∧ (∃ l', LvAt w' (.slice (some ⟨g, 0, none⟩) n n) l' ∧ l'.Perm (es.map mkLf) ∧ Rise l') ∧ Below w.heap.size w w') := by
        have hl : (es.map mkLf).length = n := by rw [List.length_map, HN.out]
        have := sort_any g (es.map mkLf) w wr (by rw [hl]; exact hrows.out) hgl.out hbw HG.out (by rw [hl]; exact hn) HNE.out
        rwa [hl] at this
      clear hrows hkn
      go_wp2_with (go_at_call 77; refine HSO.out.mono ?_; rintro e w5 ⟨rfl, ⟨l', p1, p2, p3⟩, b5⟩)
      go_ret2
      exact HPost.out _ _ _ p1 p2 p3 b5

end Go.Proofs.YtjcklpdifanjlaaDoor

/- node.part, its two slices told of any world that holds the leaves; the way down, step by step; laws for a proof in a block. -/
namespace Go.Proofs.YtjcklpdifanjlaaDoor
set_option maxRecDepth 20000
open Go.RowKit

def PartPost (g off d : Nat) (ls : List Lf) (w : World) (e : Ending) (w' : World) : Prop :=
  ∃ a0 m0 c0 a1 m1 c1, e = .returned (.tuple #[.slice a0 m0 c0, .slice a1 m1 c1]) ∧ (∀ wx : World, (∀ i, i < ls.length → wx.rangeAt g (off + i * 129) (encLf ls[i]!)) → LvAt wx (.slice a0 m0 c0) (sdL ls d 0) ∧ LvAt wx (.slice a1 m1 c1) (sdL ls d 1)) ∧ Below w.heap.size w w'

set_option maxHeartbeats 4000000 in
theorem part_in (g off cap d : Nat) (ls : List Lf) (w : World) (hd : d < 256) (hn : ls.length ≤ 4096) (hcap : ls.length ≤ cap) (hr : Rise ls) (hs : Same ls d) (hv : ∀ i, i < ls.length → w.rangeAt g (off + i * 129) (encLf ls[i]!)) :
    Calls Tryd.prog 56 #[.slice (some ⟨g, off, none⟩) ls.length cap, .int .i64 d] w (PartPost g off d ls w) := by
  obtain ⟨c, hc⟩ : ∃ c, c = ls.countP fun x => !(kb x.key d == 1) := ⟨_, rfl⟩
  have hcn : c ≤ ls.length := by rw [hc]; exact List.countP_le_length
  obtain ⟨p0, p1⟩ := part_at ls d hd hr hs
  rw [← hc] at p0 p1
  have eg : ∀ args w, (callFunc 82 args).run Tryd.prog w = .ok (.enter 82 args) w := enters_of Tryd.func82 (by kernel_rfl) rfl
  have HSE : Hid (∀ w' g1 g2, Below w.heap.size w w' → w'.cell? ⟨g1, 0, none⟩ = some (.slice (some ⟨g, off, none⟩) ls.length cap) → w'.cell? ⟨g2, 0, none⟩ = some (.int .i64 d) →
      Calls Tryd.prog 81 #[.int .i64 ls.length, .func (.func 82) #[] #[.pointer (some ⟨g1, 0, none⟩), .pointer (some ⟨g2, 0, none⟩)]] w' fun e w'' => e = .returned (.int .i64 c) ∧ Grew w' w'') := by
    intro w' g1 g2 hb h1 h2
    have h := Any.sort_Search searchL 82 #[.pointer (some ⟨g1, 0, none⟩), .pointer (some ⟨g2, 0, none⟩)] ls.length (fun i => kb ls[i]!.key d == 1) w' eg (by omega) (fun m os i hi => by
      have q : Grew w' (Go.Sort.grow (w'.drewN m) os) := ⟨m, os, rfl⟩
      have := closure_bit g off cap ls.length i d g1 g2 ls[i]! _ hi hd ((q.below.cell (block_lt_of_cell h1)).trans h1) ((q.below.cell (block_lt_of_cell h2)).trans h2) (range_grow (hv i hi) (grow_trans hb q.below))
      exact this.mono fun e w'' ⟨e1, e2⟩ => ⟨e1, e2⟩) (part_mono ls d hd hr hs)
    rw [countP_rng (fun x => !(kb x.key d == 1)) ls, ← hc] at h
    exact h
  have HV : Hid (∀ w', Below w.heap.size w w' → PartPost g off d ls w (.returned (.tuple #[.slice (some ⟨g, off, none⟩) c cap, .slice (if cap = c then some ⟨g, off, none⟩ else some ⟨g, off + c * 129, none⟩) (ls.length - c) (cap - c)])) w') := by
    intro w' hb
    refine ⟨_, _, _, _, _, _, rfl, fun wx hx => ?_, hb⟩
    have := LvAt.cut hx hcap c hcn
    rwa [p0, p1] at this
  obtain ⟨n, hnn⟩ : ∃ n, n = ls.length := ⟨_, rfl⟩
  rw [← hnn] at HSE HV hcn hcap hn ⊢
  have i1 : (c : Int) ≤ (n : Int) := by omega
  have i2 : (0 : Int) ≤ (c : Int) := by omega
  have i3 : (n : Int) ≤ (cap : Int) := by omega
  have i4 : (c : Int) ≤ (cap : Int) := by omega
  clear hr hs hv hc p0 p1 eg hnn
  go_enter Tryd.func56, Tryd.ntmps56
  go_wp2_with (go_at_call 81; refine (HSE.out _ _ _ (grow_trans (grow_alloc _ _) (grow_alloc _ _)) (by simp) (by simp)).mono ?_; rintro e x1 ⟨rfl, a1⟩)
  have hx : Below w.heap.size w x1 := grow_trans (grow_trans (grow_alloc _ _) (grow_alloc _ _)) a1.below
  have HS : Hid (∀ w', Below x1.heap.size x1 w' → w'.cell? ⟨w.heap.size, 0, none⟩ = some (.slice (some ⟨g, off, none⟩) n cap)) := by
    intro w' hw'
    have q0 : ((w.alloc (.cells #[.slice (some ⟨g, off, none⟩) n cap] 94)).alloc (.cells #[.int .i64 d] 3)).cell? ⟨w.heap.size, 0, none⟩ = some (.slice (some ⟨g, off, none⟩) n cap) := by simp
    have q1 := (a1.below.cell (block_lt_of_cell q0)).trans q0
    exact (hw'.cell (block_lt_of_cell q1)).trans q1
  have d0 : Below x1.heap.size x1 x1.drew := (Below.refl _ _).drew
  refine wp_region_held_drew (S := fun w' => w'.cell? ⟨w.heap.size, 0, none⟩ = some (.slice (some ⟨g, off, none⟩) n cap)) (by kernel_rfl) (HS.out _ d0) (fun hHeld => ?_)
  refine wpAnyH_take (i := 0) (v := .slice (some ⟨g, off, none⟩) n cap) rfl (by kernel_rfl) (by kernel_rfl) (by kernel_rfl) (fun _ _ _ h => h) (Or.inl ⟨by rfl, fun w hS => by (have s1 := hS; go_simp)⟩) hHeld ?_
  simp only [Act.put, List.getElem_toArray, List.getElem_cons_zero, List.setIfInBounds_toArray, List.set_cons_zero, List.set_cons_succ]
  refine wpAnyH_take (i := 1) (v := .int .i64 c) rfl (by kernel_rfl) (by kernel_rfl) (by kernel_rfl) (fun _ _ _ h => h) (Or.inl ⟨by rfl, fun w hS => by go_simp⟩) hHeld ?_
  simp only [Act.put, List.getElem_toArray, List.getElem_cons_zero, List.getElem_cons_succ, List.setIfInBounds_toArray, List.set_cons_zero, List.set_cons_succ]
  refine wpAnyH_take (i := 2) (v := .slice (some ⟨g, off, none⟩) c cap) rfl (by kernel_rfl) (by kernel_rfl) (by kernel_rfl) (fun _ _ _ h => h) (Or.inl ⟨by rfl, fun w hS => by go_simp⟩) hHeld ?_
  simp only [Act.put, List.getElem_toArray, List.getElem_cons_zero, List.getElem_cons_succ, List.setIfInBounds_toArray, List.set_cons_zero, List.set_cons_succ]
  refine wpAnyH_take (i := 3) (v := .slice (some ⟨g, off, none⟩) n cap) rfl (by kernel_rfl) (by kernel_rfl) (by kernel_rfl) (fun _ _ _ h => h) (Or.inl ⟨by rfl, fun w hS => by (have s1 := hS; go_simp)⟩) hHeld ?_
  simp only [Act.put, List.getElem_toArray, List.getElem_cons_zero, List.getElem_cons_succ, List.setIfInBounds_toArray, List.set_cons_zero, List.set_cons_succ]
  refine wpAnyH_take (i := 4) (v := .int .i64 c) rfl (by kernel_rfl) (by kernel_rfl) (by kernel_rfl) (fun _ _ _ h => h) (Or.inl ⟨by rfl, fun w hS => by go_simp⟩) hHeld ?_
  simp only [Act.put, List.getElem_toArray, List.getElem_cons_zero, List.getElem_cons_succ, List.setIfInBounds_toArray, List.set_cons_zero, List.set_cons_succ]
  refine wpAnyH_take (i := 5) (v := .slice (if cap = c then some ⟨g, off, none⟩ else some ⟨g, off + c * 129, none⟩) (n - c) (cap - c)) rfl (by kernel_rfl) (by kernel_rfl) (by kernel_rfl) (fun _ _ _ h => h) (Or.inl ⟨by rfl, fun w hS => by (go_simp; skip)⟩) hHeld ?_
  simp only [Act.put, List.getElem_toArray, List.getElem_cons_zero, List.getElem_cons_succ, List.setIfInBounds_toArray, List.set_cons_zero, List.set_cons_succ]
  refine wpAnyH_take (i := 6) (v := .slice (some ⟨g, off, none⟩) c cap) rfl (by kernel_rfl) (by kernel_rfl) (by kernel_rfl) (fun _ _ _ h => h) (Or.inl ⟨by rfl, fun w hS => by go_simp⟩) hHeld ?_
  simp only [Act.put, List.getElem_toArray, List.getElem_cons_zero, List.getElem_cons_succ, List.setIfInBounds_toArray, List.set_cons_zero, List.set_cons_succ]
  refine wpAnyH_take (i := 7) (v := .slice (if cap = c then some ⟨g, off, none⟩ else some ⟨g, off + c * 129, none⟩) (n - c) (cap - c)) rfl (by kernel_rfl) (by kernel_rfl) (by kernel_rfl) (fun _ _ _ h => h) (Or.inl ⟨by rfl, fun w hS => by go_simp⟩) hHeld ?_
  simp only [Act.put, List.getElem_toArray, List.getElem_cons_zero, List.getElem_cons_succ, List.setIfInBounds_toArray, List.set_cons_zero, List.set_cons_succ]
  refine wpAnyH_done (by kernel_rfl) ?_ _
  generalize (if cap = c then (some ⟨g, off, none⟩ : Option Addr) else some ⟨g, off + c * 129, none⟩) = A1 at HV ⊢
  go_wp2_with fail
  go_ret2
  exact HV.out _ (grow_trans hx d0)


/-- The end of a way. -/
def endN : List Ent → List Int
  | [e] => nd 1 e.1 (vaD e.2) z32 z32
  | _ => nd 0 z32 z32 z32 z32

/-- On the way down: the entries that are left, the sides so far. -/
structure WaySt (es : List Ent) (key : List Int) (d : Nat) (ed : List Ent) (hs : List (List Int)) : Prop where
  hd : d ≤ 256
  keys : ∀ e ∈ ed, Key e.1
  sides : hs ++ sds (256 - d) d ed key = sds 256 0 es key
  rest : rst (256 - d) d ed key = rst 256 0 es key
  len : hs.length = d
  dgs : Dgs hs
  sub : ∀ e ∈ ed, e ∈ es

theorem rt_len (n d : Nat) (es : List Ent) : (rt n d es).length = 32 ∧ Bytes (rt n d es) := by
  match n, es with
  | _, [] => rw [rt_nil]; exact ⟨dig_length _, dig_bytes _⟩
  | _, [x] => rw [rt_one]; exact ⟨dig_length _, dig_bytes _⟩
  | 0, _ :: _ :: _ => exact ⟨dig_length _, dig_bytes _⟩
  | n + 1, a :: b :: l => rw [rt_more n d _ (by simp)]; exact ⟨dig_length _, dig_bytes _⟩

theorem WaySt.start {es : List Ent} (key : List Int) (h : ∀ e ∈ es, Key e.1) : WaySt es key 0 es [] := ⟨by omega, h, rfl, rfl, rfl, fun x hx => by simp at hx, fun _ h => h⟩
theorem WaySt.step {es ed : List Ent} {key : List Int} {d : Nat} {hs : List (List Int)} (h : WaySt es key d ed hs) (hl : 1 < ed.length) (hd : d < 256) :
    WaySt es key (d + 1) (sideOf ed d (kb key d)) (hs ++ [rt (255 - d) (d + 1) (sideOf ed d (1 - kb key d))]) := by
  have e : 256 - d = (255 - d) + 1 := by omega
  have e2 : 256 - (d + 1) = 255 - d := by omega
  have h1 := h.sides
  have h2 := h.rest
  rw [e, sds, if_neg (by omega)] at h1
  rw [e, rst, if_neg (by omega)] at h2
  refine ⟨by omega, fun x hx => h.keys x (List.mem_filter.1 hx).1, ?_, ?_, by rw [List.length_append, h.len]; rfl, h.dgs.snoc (rt_len _ _ _).1 (rt_len _ _ _).2, fun x hx => h.sub x (List.mem_filter.1 hx).1⟩
  · rw [e2, List.append_assoc]
    exact h1
  · rw [e2]
    exact h2
theorem WaySt.done {es ed : List Ent} {key : List Int} {d : Nat} {hs : List (List Int)} (h : WaySt es key d ed hs) (hl : ed.length ≤ 1) : hs = sds 256 0 es key ∧ rst 256 0 es key = ed := by
  have h1 := h.sides
  have h2 := h.rest
  match hn : 256 - d with
  | 0 =>
    have e1 : sds 0 d ed key = [] := by simp [sds]
    have e2 : rst 0 d ed key = ed := by simp [rst]
    rw [hn, e1, List.append_nil] at h1
    rw [hn, e2] at h2
    exact ⟨h1, h2.symm⟩
  | k + 1 =>
    rw [hn, sds, if_pos hl, List.append_nil] at h1
    rw [hn, rst, if_pos hl] at h2
    exact ⟨h1, h2.symm⟩

theorem sdL_perm {ls : List Lf} {ed : List Ent} {d : Nat} (hd : d < 256) (hk : ∀ e ∈ ed, Key e.1) (h : ls.Perm (ed.map mkLf)) (c : Int) : (sdL ls d c).Perm ((sideOf ed d c).map mkLf) := by
  rw [← side_map ed d c hd hk]
  exact h.filter _

theorem sds_dgs : ∀ (n d : Nat) (l : List Ent) (key : List Int), Dgs (sds n d l key)
  | 0, _, _, _ => fun x hx => by simp [sds] at hx
  | n + 1, d, l, key => by
    intro x hx
    unfold sds at hx
    split at hx
    · simp at hx
    · rcases List.mem_cons.1 hx with rfl | hx
      · exact rt_len _ _ _
      · exact sds_dgs n (d + 1) _ key x hx

theorem Blk.keptO {w w' : World} {g : Nat} {t : TypeId} {cs : Array Value} {row : Option Nat} (h : Blk w g t cs) (hg : w.grownBy w' row) (hne : some g ≠ row) : Blk w' g t cs := h.of_block (hg.block g h.lt hne)
theorem own_ne {w : World} {base : Nat} {v : Value} {n : Nat} {xs : List Value} {g : Nat} {cs : Array Value} (h : w.ownsRow base 25 32 v n xs) (hb : Blk w g 60 cs) : some g ≠ v.ownBlock := by
  rcases h.2 with ⟨rfl, _⟩ | ⟨g', cap, cur, rfl, _, hg, _⟩
  · simp [Value.ownBlock]
  · intro e
    obtain rfl : g = g' := by simpa [Value.ownBlock] using e
    have hb' : w.heap[g]? = some (.cells cs 60 (0, 0)) := hb
    rw [hb'] at hg
    injection hg with hg
    injection hg with _ ht
    exact absurd ht (by decide)
theorem own_base {w : World} {base base' : Nat} {v : Value} {n : Nat} {xs : List Value} (h : w.ownsRow base 25 32 v n xs) (hb : base' ≤ base) : w.ownsRow base' 25 32 v n xs := by
  refine ⟨h.1, h.2.imp id ?_⟩
  rintro ⟨g, cap, cur, e1, e2, e3⟩
  exact ⟨g, cap, cur, e1, Nat.le_trans hb e2, e3⟩
theorem own_slice {w : World} {base : Nat} {v : Value} {n : Nat} {xs : List Value} (h : w.ownsRow base 25 32 v n xs) : ∃ a c, v = .slice a n c := by
  rcases h.2 with ⟨e, e2⟩ | ⟨g', cap', cur, e, _⟩
  · exact ⟨none, 0, by rw [e, e2]⟩
  · exact ⟨_, _, e⟩

theorem rep_nd : List.replicate 129 (0 : Int) = nd 0 z32 z32 z32 z32 := by rfl

/-- store of a part of a block. -/
theorem wpList_stm {ops : Array Oper} {rest : List Oper} {op : Oper} {a : Act} {Q : Exit → Act → World → Prop} (w : World) (hgd : op.guard = none) (ty : TypeId) (x y : Operand) (ho : op.op = .store ty x y)
    (b off : Nat) (cells : Array Value) (hx : a.eval x = .pointer (some ⟨b, off, none⟩)) (hy : a.eval y = .agg cells) (ht : w.there b off cells.size) (hi : (Tryd.prog.info? ty).map (·.size) = some cells.size) (h1 : cells.all (·.oneCell') = true)
    (h : wpList Tryd.prog ops Q rest (a.put op.dst undef) (w.setCells b off cells.toList)) : wpList Tryd.prog ops Q (op :: rest) a w :=
  wpList_plain hgd fun _ hK => wp_store_mid ty x y ho b off cells hx hy ht hi h1 (hK _ _ h)

end Go.Proofs.YtjcklpdifanjlaaDoor
