/- The document's digests (rootcellarref03), and Entry of both, as contracts. -/
import Derived.Test.YtnnmfgnommbmkaaGreatDoorLa01
import Derived.Test.YtnnmfgnommbmkaaGreatDoorLa18
import Derived.Test.YtnnmfgnommbmkaaGreatDoorLa20
import Derived.Laws.ResultCell
import Derived.Test.YtnnmfgnommbmkaaGreatDoorLa07
namespace Go.Proofs.YtnnmfgnommbmkaaGreatDoor
set_option maxRecDepth 20000
open Go.RowKit

set_option maxHeartbeats 2000000 in
theorem entry_short (K : List Int) (v : Value) (zs : List Int) (w : World) (hk : K.length = 32) (bk : Bytes K) (h : Reads w v zs) (hL : Laid w) (hl : zs.length ≤ 1024) : Calls Tryz.prog 93 #[.agg (B K), v] w fun e w' => e = .returned (.tuple #[.agg (B (dig (1 :: (K ++ dig (3 :: zs))))), .int .i64 0]) ∧ Below w.heap.size w w' := by
  obtain ⟨D, hD⟩ : ∃ D, D = dig (1 :: (K ++ dig (3 :: zs))) := ⟨_, rfl⟩
  obtain ⟨E, hE⟩ : ∃ E, E = dig (3 :: zs) := ⟨_, rfl⟩
  have HD := hidden hD
  have HSZ : Hid ((B D).size = 32) := by rw [B_size, hD]; exact dig_length _
  have HKZ : Hid ((B K).size = 32) := by rw [B_size]; exact hk
  have HV : Hid (∀ w', Below w.heap.size w w' → Calls Tryz.prog 53 #[v] w' fun e w'' => e = .returned (.agg (B E)) ∧ Below w'.heap.size w' w'') := by
    intro w' hw'
    rw [hE]
    exact value_any v zs w' (h.grow hw') (hL.grow hw') (by omega)
  have HF : Hid (∀ w', Below w.heap.size w w' → Calls Tryz.prog 58 #[.agg (B K), .agg (B E)] w' fun e w'' => e = .returned (.agg (B D)) ∧ Below w'.heap.size w' w'') := by
    intro w' hw'
    rw [hD, ← hE]
    exact leaf_any K E w' hk (by rw [hE]; exact dig_length _) bk (by rw [hE]; exact dig_bytes _) (hL.grow hw')
  rw [← hD]
  obtain ⟨va, vc, rfl, _, _, _, _⟩ := h
  have hgt : ¬ (1024 : Int) < (zs.length : Int) := by omega
  generalize zs.length = n at *
  clear hD hE hk bk
  go_enter Tryz.func93, Tryz.ntmps93
  go_wp2_with (first
    | (refine wpList_bx _ rfl _ _ rfl _ rfl ?_; intro w1 g1 hg1 hl1 B1 b1)
    | (refine wpList_al _ rfl _ rfl _ zero_hash ?_; intro w2 g2 hg2 hl2 B2 b2))
  have c2 := b1.trans (b2.mono b1.size)
  have HB1 := hidden (B1.grow b2)
  have HB2 := hidden B2
  have hd2 : Below w2.heap.size w2 w2.drew := (Below.refl _ _).drew
  have hiK : (Tryz.prog.info? 32).map (·.size) = some (B K).toList.length := by rw [Array.length_toList, HKZ.out]; kernel_rfl
  clear B1 B2
  refine wp_region_held_drew (S := fun w' => w'.rangeAt g1 0 (B K).toList) (by kernel_rfl) ((HB1.out.grow hd2).range) (fun hHeld => ?_)
  refine tkg 0 (.agg (B K)) rfl (yieldsIf_load_mid rfl 32 (.tmp 2) rfl g1 0 rfl (B K).toList _ (fun w hS => hS) Tryz.underlying32 rfl hiK) hHeld ?_
  simp only [Act.put, zq1, zq2, zq4, zq5, zq6]
  refine tkp 1 (.slice va n vc) hHeld ?_
  simp only [Act.put, zq1, zq2, zq3, zq4, zq5, zq6]
  refine wpAnyH_ready (rs := [2]) (by kernel_rfl) (by simp) ?_
  refine AllReadyH.cons rfl (fun K1 hK => ?_) AllReadyH.nil
  go_simp
  refine (HV.out _ (grow_trans c2 hd2)).mono ?_
  rintro e w3 ⟨rfl, b3⟩
  have hd3 := grow_trans hd2 b3
  refine hK.out _ _ ((HB1.out.grow hd3).range) (fun hHeld => ?_)
  clear hK K1
  refine wpAnyH_ready (rs := [3]) (by kernel_rfl) (by simp) ?_
  refine AllReadyH.cons rfl (fun K1 hK => ?_) AllReadyH.nil
  go_simp
  refine (HF.out _ (grow_trans c2 hd3)).mono ?_
  rintro e w4 ⟨rfl, b4⟩
  have hd4 := grow_trans hd3 b4
  refine hK.out _ _ ((HB1.out.grow hd4).range) (fun hHeld => ?_)
  clear hK K1
  have B4 := HB2.out.grow hd4
  refine wpAnyH_ready (rs := [4]) (by kernel_rfl) (by simp) ?_
  refine AllReadyH.cons rfl (fun K1 hK => ?_) AllReadyH.nil
  refine step_sto _ rfl _ _ _ rfl g2 _ (B D) rfl rfl B4 (by rw [HSZ.out]; exact size_hash) (by rw [HSZ.out, B_size]; simp) (B_one _) ?_
  intro w5 B5 g5
  refine hK.out _ _ (((HB1.out.grow hd4).kept g5 (by omega)).range) (fun hHeld => ?_)
  clear hK K1
  refine tkp 5 (.int .i64 0) hHeld ?_
  simp only [Act.put, zq1, zq2, zq3, zq4, zq5, zq6]
  refine wpAnyH_done (by kernel_rfl) ?_ _
  go_wp2_with fail
  exact bodyPost_ret (v := .tuple #[.agg (B D), .int .i64 0]) (results_row_tmp rfl _ _ g2 _ _ _ _ rfl rfl B5 Tryz.underlying25 (by rw [HSZ.out]; exact size_hash)) rfl ⟨rfl, below_row (grow_trans c2 hd4) g5 (Nat.le_trans b1.size hg2)⟩

end Go.Proofs.YtnnmfgnommbmkaaGreatDoor

namespace Go.Proofs.YtnnmfgnommbmkaaGreatDoor
set_option maxRecDepth 20000
open Go.RowKit

structure Vw (w : World) (v : Value) (mk : Bool) (ct : Int → Nat) (ca : Int → Ce) : Prop where
  made : ∀ w', Below w.heap.size w w' → Calls Tryz.prog 46 #[v] w' fun e w'' => e = .returned (.bool mk) ∧ w'' = w'
  atv : ∀ w' h, Below w.heap.size w w' → Calls Tryz.prog 48 #[v, .int .i64 h] w' fun e w'' => e = .returned (.agg (cz (ca h)).toArray) ∧ Below w'.heap.size w' w''
  count : ∀ w' h, Below w.heap.size w w' → Calls Tryz.prog 79 #[v, .int .i64 h] w' fun e w'' => e = .returned (.int .i64 (ct h : Int)) ∧ w'' = w'
  ok : ∀ h, CeOk (ca h)
  val : ∀ h, Reads w (ca h).val (ca h).bs
  len : ∀ h, (ca h).bs.length ≤ 1024
  le : ∀ h, (ca h).ab ≤ ct h ∧ ct h ≤ 1073741824

theorem Vw.grow {w w' : World} {v : Value} {mk : Bool} {ct : Int → Nat} {ca : Int → Ce} (V : Vw w v mk ct ca) (hb : Below w.heap.size w w') : Vw w' v mk ct ca :=
  ⟨fun w'' h => V.made w'' (grow_trans hb h), fun w'' x h => V.atv w'' x (grow_trans hb h), fun w'' x h => V.count w'' x (grow_trans hb h), V.ok, fun h => (V.val h).grow hb, V.len, V.le⟩

set_option maxHeartbeats 400000 in
theorem countS_ok {w : World} {g gs : Nat} {vp vf : Value} {room : Nat} {cs : List (Nat × Ce)} {fr : List Nat} (s : Stm w g gs vp vf room cs fr) (h : Int) : Calls Tryz.prog 79 #[.pointer (some ⟨g, 0, none⟩), .int .i64 h] w fun e w' => e = .returned (.int .i64 (cot cs h : Int)) ∧ w' = w := by
  have c0 := s.c0
  have c1 := s.c1
  have HC := hidden (count_any s h)
  generalize cot cs h = q at HC ⊢
  clear s
  go_enter Tryz.func79, Tryz.ntmps79
  go_wp2_with (first
    | (go_at_call 46; refine (madeS_ok g _ c0).mono ?_; rintro e w' ⟨rfl, hx⟩; rw [hx]; clear hx w')
    | (go_at_call 100; refine HC.out.mono ?_; rintro e w' ⟨rfl, hx⟩; rw [hx]; clear hx w'))
  go_ret
  exact ⟨rfl, rfl⟩

theorem Wf.bsLen {cs : List (Nat × Ce)} {pend : List Nat} (w : Wf cs pend) (h : Int) : (cat cs h).bs.length ≤ 1024 := by
  by_cases hc : cot cs h = 0
  · rw [w.cat0 hc]
    decide
  · obtain ⟨i, h1, h2, h3, h4⟩ := cot_in (cs := cs) (h := h) (by omega)
    rw [h4]
    rcases w.tr i h2 with hl | hn
    · exact hl.len
    · rw [hn.bs]
      decide

theorem vw_ok {w : World} {g gs : Nat} {vp vf : Value} {room : Nat} {cs : List (Nat × Ce)} {fr pend : List Nat} (s : Stm w g gs vp vf room cs fr) (hw : Wf cs pend) : Vw w (.pointer (some ⟨g, 0, none⟩)) true (cot cs) (cat cs) := by
  refine ⟨fun w' hb => madeS_ok g w' (s.grow hb).c0, fun w' h hb => atS_ok (s.grow hb) hw h, fun w' h hb => countS_ok (s.grow hb) h, hw.catOk, fun h => ?_, hw.bsLen, fun h => ?_⟩
  · unfold cat
    split
    · obtain ⟨sp, ho⟩ := s.vals (h - 1).toNat
      exact ho.reads
    · exact Reads.nil _
  · unfold cat cot
    split
    · have h1 := hw.le (h - 1).toNat
      have h2 := s.sl.inv.most (h - 1).toNat
      rw [cnt_pl] at h2
      omega
    · exact ⟨by decide, by decide⟩

set_option maxHeartbeats 400000 in
theorem kind_any {w : World} {v : Value} {mk : Bool} {ct : Int → Nat} {ca : Int → Ce} (V : Vw w v mk ct ca) (h : Int) : Calls Tryz.prog 24 #[v, .int .i64 h] w fun e w' => e = .returned (.int .u8 (ca h).kind) ∧ Below w.heap.size w w' := by
  have HA := hidden (V.atv w h (Below.refl _ _))
  have hf := fld_kind (ca h) (V.ok h)
  obtain ⟨c, hc⟩ : ∃ c, c = ca h := ⟨_, rfl⟩
  rw [← hc] at HA hf
  rw [← hc]
  clear hc V
  go_enter Tryz.func24, Tryz.ntmps24
  go_wp2_with (go_at_call 48; refine HA.out.mono ?_; rintro e w1 ⟨rfl, b1⟩)
  go_ret
  exact ⟨rfl, b1⟩

set_option maxHeartbeats 400000 in
theorem size_any {w : World} {v : Value} {mk : Bool} {ct : Int → Nat} {ca : Int → Ce} (V : Vw w v mk ct ca) (h : Int) : Calls Tryz.prog 28 #[v, .int .i64 h] w fun e w' => e = .returned (.int .i64 ((ca h).sz : Int)) ∧ Below w.heap.size w w' := by
  have HA := hidden (V.atv w h (Below.refl _ _))
  have hf := fld_sz (ca h) (V.ok h)
  obtain ⟨c, hc⟩ : ∃ c, c = ca h := ⟨_, rfl⟩
  rw [← hc] at HA hf
  rw [← hc]
  clear hc V
  go_enter Tryz.func28, Tryz.ntmps28
  go_wp2_with (go_at_call 48; refine HA.out.mono ?_; rintro e w1 ⟨rfl, b1⟩)
  go_ret
  exact ⟨rfl, b1⟩

set_option maxHeartbeats 400000 in
theorem held_any {w : World} {v : Value} {mk : Bool} {ct : Int → Nat} {ca : Int → Ce} (V : Vw w v mk ct ca) (h : Int) : Calls Tryz.prog 73 #[v, .int .i64 h] w fun e w' => e = .returned (.int .i64 ((ct h - (ca h).ab : Nat) : Int)) ∧ Below w.heap.size w w' := by
  have HA := hidden (V.atv w h (Below.refl _ _))
  have HC := hidden (V.count w h (Below.refl _ _))
  have hf := fld_ab (ca h) (V.ok h)
  obtain ⟨h1, h2⟩ := V.le h
  obtain ⟨q, hq⟩ : ∃ q, q = ct h := ⟨_, rfl⟩
  rw [← hq] at HC h1 h2
  rw [← hq]
  obtain ⟨c, hc⟩ : ∃ c, c = ca h := ⟨_, rfl⟩
  rw [← hc] at HA hf h1
  rw [← hc]
  have HW : Hid (wrap64 ((q : Int) - (c.ab : Int)) = ((q - c.ab : Nat) : Int)) := by
    show _ = _
    rw [Go.IntWalk.wrap64_in _ (by omega)]
    omega
  clear hc hq V h1 h2
  go_enter Tryz.func73, Tryz.ntmps73
  go_wp2_with (first
    | (go_at_call 79; refine HC.out.mono ?_; rintro e w' ⟨rfl, hx⟩; rw [hx]; clear hx w')
    | (go_at_call 48; refine HA.out.mono ?_; rintro e w1 ⟨rfl, b1⟩))
  go_ret
  exact ⟨by rw [← HW.out]; rfl, b1⟩

set_option maxHeartbeats 400000 in
theorem has_any {w : World} {v : Value} {mk : Bool} {ct : Int → Nat} {ca : Int → Ce} (V : Vw w v mk ct ca) (h : Int) : Calls Tryz.prog 47 #[v, .int .i64 h] w fun e w' => e = .returned (.bool (decide (0 < ct h))) ∧ Below w.heap.size w w' := by
  have HC := hidden (V.count w h (Below.refl _ _))
  obtain ⟨q, hq⟩ : ∃ q, q = ct h := ⟨_, rfl⟩
  rw [← hq] at HC
  rw [← hq]
  clear hq V
  have e0 : decide ((0 : Int) < (q : Int)) = decide (0 < q) := by simp
  go_enter Tryz.func47, Tryz.ntmps47
  go_wp2_with (go_at_call 79; refine HC.out.mono ?_; rintro e w' ⟨rfl, hx⟩; rw [hx]; clear hx w')
  go_ret
  exact ⟨rfl, Below.refl _ _⟩

set_option maxHeartbeats 1000000 in
theorem key_any {w : World} {v : Value} {mk : Bool} {ct : Int → Nat} {ca : Int → Ce} (V : Vw w v mk ct ca) (h : Int) : Calls Tryz.prog 29 #[v, .int .i64 h] w fun e w' => e = .returned (.agg (B (ca h).key)) ∧ Below w.heap.size w w' := by
  have HA : Hid (∀ w', Below w.heap.size w w' → Calls Tryz.prog 48 #[v, .int .i64 h] w' fun e w'' => e = .returned (.agg (cz (ca h)).toArray) ∧ Below w'.heap.size w' w'') := fun w' hb => V.atv w' h hb
  have hf := fld_key (ca h) (V.ok h)
  obtain ⟨c, hc⟩ : ∃ c, c = ca h := ⟨_, rfl⟩
  have HSZ : Hid ((B (ca h).key).size = 32) := by rw [B_size]; exact (V.ok h).hk.1
  rw [← hc] at HA hf HSZ
  rw [← hc]
  clear hc V
  go_enter Tryz.func29, Tryz.ntmps29
  go_wp2_with (first
    | ((with_reducible refine at_ald 4 ?_); refine wpList_al _ rfl _ rfl _ zero_path ?_; intro w1 b4 hg4 hl4 B4 b1; have HB4 := hidden B4; have Hg4 := hidden hg4; clear B4 hg4 hl4)
    | (go_at_call 48; refine (HA.out _ b1).mono ?_; rintro e w2 ⟨rfl, b2⟩; have B4' := hidden (HB4.out.grow b2); have Hb2 := hidden b2; clear b2)
    | ((with_reducible refine at_st 4 ?_); refine wpList_sto _ rfl _ _ _ rfl b4 _ (B c.key) rfl rfl B4'.out (by rw [HSZ.out]; exact size_path) (by rw [HSZ.out, B_size]; simp) (B_one _) ?_; intro w3 B5 g3))
  exact bodyPost_ret (v := .agg (B c.key)) (results_cell_row rfl _ _ b4 _ _ _ _ rfl B5 Tryz.underlying32 rfl (by rw [HSZ.out]; exact size_path)) rfl ⟨rfl, below_row (grow_trans b1 Hb2.out) g3 Hg4.out⟩

theorem run_nil_bytes (a : Option Addr) (n c : Nat) (w : World) : (binOp .eql 36 (.slice a n c) (.slice none 0 0)).run Tryz.prog w = .ok (.bool a.isNone) w := by
  obtain ⟨e, he⟩ : ∃ e, Tryz.prog.underlying 36 = some (.slice e) := ⟨_, Tryz.underlying36⟩
  have h : ∀ d : Nat, (Op.equalIn (d + 1) 36 (.slice a n c) (.slice none 0 0)).run Tryz.prog w = .ok a.isNone w := fun d => by
    cases a <;> simp [Op.equalIn, run_underlying he]
  simp only [binOp]
  simp [Op.equal, Op.maxDepth, h 9999]

set_option maxHeartbeats 400000 in
theorem clone_any (v : Value) (zs : List Int) (w : World) (hr : Reads w v zs) (hl : zs.length ≤ 140737488355328) : Calls Tryz.prog 77 #[v] w fun e w' => ∃ v' sp, e = .returned v' ∧ Own w.heap.size w' v' zs sp ∧ Below w.heap.size w w' := by
  have HR := hidden hr
  have HL := hidden hl
  obtain ⟨a, cap, rfl, hc, hz, _, _⟩ := hr
  cases a with
  | none =>
    have h0 := hz rfl
    subst h0
    have hn : zs = [] := List.eq_nil_of_length_eq_zero (by omega)
    subst hn
    have hq := run_nil_bytes none 0 0 w
    clear hc hz hl HR HL
    go_enter Tryz.func77, Tryz.ntmps77
    go_wp2
    go_ret
    exact ⟨_, [], rfl, Own.nil _ _, Below.refl _ _⟩
  | some x =>
    have HO := hidden (Own.empty w.heap.size w (Nat.le_refl _))
    have HR2 := hidden (HR.out.grow (grow_alloc w (.cells #[] 5)))
    have hq := run_nil_bytes (some x) zs.length cap w
    clear hz hl hc HR
    go_enter Tryz.func77, Tryz.ntmps77
    go_wp2_with (at_builtin; refine wpList_app _ rfl _ _ rfl w.heap.size _ _ [] [] zs HO.out HR2.out rfl rfl (by simpa using HL.out) (by simp) ?_; intro v' w' sp' o' g' _ _)
    go_ret
    exact ⟨_, sp', rfl, o', below_row (grow_alloc w _) (by simpa [Value.ownBlock] using g') (Nat.le_refl _)⟩

set_option maxHeartbeats 400000 in
theorem valueS_any {w : World} {v : Value} {mk : Bool} {ct : Int → Nat} {ca : Int → Ce} (V : Vw w v mk ct ca) (h : Int) : Calls Tryz.prog 51 #[v, .int .i64 h] w fun e w' => ∃ v' sp, e = .returned v' ∧ Own w.heap.size w' v' (ca h).bs sp ∧ Below w.heap.size w w' := by
  have HA := hidden (V.atv w h (Below.refl _ _))
  have hf := fld_val (ca h) (V.ok h)
  have HR := hidden (V.val h)
  have HL := hidden (V.len h)
  obtain ⟨c, hc⟩ : ∃ c, c = ca h := ⟨_, rfl⟩
  rw [← hc] at HA hf HR HL
  rw [← hc]
  clear hc V
  go_enter Tryz.func51, Tryz.ntmps51
  go_wp2_with (first
    | (go_at_call 48; refine HA.out.mono ?_; rintro e w1 ⟨rfl, b1⟩)
    | (go_at_call 77; refine (clone_any _ c.bs _ (HR.out.grow b1) (by have := HL.out; omega)).mono ?_; rintro e w2 ⟨v', sp, rfl, o2, b2⟩))
  go_ret
  exact ⟨_, sp, rfl, o2.mono b1.size, grow_trans b1 b2⟩

set_option maxHeartbeats 1000000 in
theorem sides_any {w : World} {v : Value} {mk : Bool} {ct : Int → Nat} {ca : Int → Ce} (V : Vw w v mk ct ca) (h : Int) : Calls Tryz.prog 25 #[v, .int .i64 h] w fun e w' => e = .returned (.tuple #[.int .i64 ((ca h).l : Int), .int .i64 ((ca h).r : Int)]) ∧ Below w.heap.size w w' := by
  have HA := hidden (V.atv w h (Below.refl _ _))
  have HO := hidden (V.ok h)
  obtain ⟨c, hc⟩ : ∃ c, c = ca h := ⟨_, rfl⟩
  rw [← hc] at HA HO
  rw [← hc]
  clear hc V
  go_enter Tryz.func25, Tryz.ntmps25
  go_wp2_with (first
    | (go_at_call 48; refine HA.out.mono ?_; rintro e w1 ⟨rfl, b1⟩)
    | ((with_reducible refine at_ald 6 ?_); refine wpList_al _ rfl _ rfl _ zero_thC ?_; intro w2 b6 hg6 hl6 B6 b2; have HB6 := hidden B6; have Hg6 := hidden hg6; have Hb2 := hidden b2; clear B6 hg6 hl6 b2)
    | ((with_reducible refine at_st 6 ?_); refine wpList_sto _ rfl _ _ _ rfl b6 _ (cz c).toArray rfl rfl HB6.out (xszC (cz c) (cz_th HO.out)) (xzsC (cz c) (cz_th HO.out)) (all_oneCell_toArray (cz_one HO.out)) ?_; intro w3 B7 g3; have c7 := B7.cell 69; have c8 := B7.cell 70; simp only [List.getElem?_toArray] at c7 c8; rw [(cz_at c HO.out).2.2.2.2.2.1] at c7; rw [(cz_at c HO.out).2.2.2.2.2.2] at c8; have Hg3 := hidden g3; clear B7 g3))
  go_quiet (fail)
  go_wp2
  go_ret2
  exact ⟨rfl, below_drewN (below_row (grow_trans b1 Hb2.out) Hg3.out (by have := Hg6.out; have := b1.size; omega)) _⟩

def vDp (mk : Bool) (c : Ce) : Int := if mk then (if c.kind = 2 then (c.dp : Int) else -1) else 0

set_option maxHeartbeats 1000000 in
theorem depth_any {w : World} {v : Value} {mk : Bool} {ct : Int → Nat} {ca : Int → Ce} (V : Vw w v mk ct ca) (h : Int) : Calls Tryz.prog 27 #[v, .int .i64 h] w fun e w' => e = .returned (.int .i64 (vDp mk (ca h))) ∧ Below w.heap.size w w' := by
  have HM := hidden (V.made w (Below.refl _ _))
  cases mk with
  | false =>
    clear V
    go_enter Tryz.func27, Tryz.ntmps27
    go_wp2_with (go_at_call 46; refine HM.out.mono ?_; rintro e w' ⟨rfl, hx⟩; rw [hx]; clear hx w')
    go_ret
    exact ⟨rfl, Below.refl _ _⟩
  | true =>
    have HA := hidden (V.atv w h (Below.refl _ _))
    have HO := hidden (V.ok h)
    obtain ⟨c, hc⟩ : ∃ c, c = ca h := ⟨_, rfl⟩
    rw [← hc] at HA HO
    rw [← hc]
    clear hc V
    by_cases hk : c.kind = 2
    · have HV : Hid (vDp true c = (c.dp : Int)) := by simp [vDp, hk, Hid]
      rw [HV.out]
      have HK := hidden hk
      clear hk HV
      go_enter Tryz.func27, Tryz.ntmps27
      go_wp2_with (first
        | (go_at_call 46; refine HM.out.mono ?_; rintro e w' ⟨rfl, hx⟩; rw [hx]; clear hx w')
        | (go_at_call 48; refine HA.out.mono ?_; rintro e w1 ⟨rfl, b1⟩)
        | ((with_reducible refine at_ald 5 ?_); refine wpList_al _ rfl _ rfl _ zero_thC ?_; intro w2 b6 hg6 hl6 B6 b2; have HB6 := hidden B6; have Hg6 := hidden hg6; have Hb2 := hidden b2; clear B6 hg6 hl6 b2)
        | ((with_reducible refine at_st 5 ?_); refine wpList_sto _ rfl _ _ _ rfl b6 _ (cz c).toArray rfl rfl HB6.out (xszC (cz c) (cz_th HO.out)) (xzsC (cz c) (cz_th HO.out)) (all_oneCell_toArray (cz_one HO.out)) ?_; intro w3 B7 g3; have c7 := B7.cell 32; have c8 := B7.cell 68; simp only [List.getElem?_toArray] at c7 c8; rw [(cz_at c HO.out).1, HK.out] at c7; rw [(cz_at c HO.out).2.2.2.2.1] at c8; have Hg3 := hidden g3; clear B7 g3))
      go_ret
      exact ⟨rfl, below_row (grow_trans b1 Hb2.out) Hg3.out (by have := Hg6.out; have := b1.size; omega)⟩
    · have HV : Hid (vDp true c = -1) := by simp [vDp, hk, Hid]
      rw [HV.out]
      have hk2 : (c.kind == 2) = false := by simp [hk]
      have HK := hidden hk
      clear hk HV
      obtain ⟨k, hkk⟩ : ∃ k, k = c.kind := ⟨_, rfl⟩
      have HKK := hidden hkk
      rw [← hkk] at hk2
      clear hkk
      go_enter Tryz.func27, Tryz.ntmps27
      go_wp2_with (first
        | (go_at_call 46; refine HM.out.mono ?_; rintro e w' ⟨rfl, hx⟩; rw [hx]; clear hx w')
        | (go_at_call 48; refine HA.out.mono ?_; rintro e w1 ⟨rfl, b1⟩)
        | ((with_reducible refine at_ald 5 ?_); refine wpList_al _ rfl _ rfl _ zero_thC ?_; intro w2 b6 hg6 hl6 B6 b2; have HB6 := hidden B6; have Hg6 := hidden hg6; have Hb2 := hidden b2; clear B6 hg6 hl6 b2)
        | ((with_reducible refine at_st 5 ?_); refine wpList_sto _ rfl _ _ _ rfl b6 _ (cz c).toArray rfl rfl HB6.out (xszC (cz c) (cz_th HO.out)) (xzsC (cz c) (cz_th HO.out)) (all_oneCell_toArray (cz_one HO.out)) ?_; intro w3 B7 g3; have c7 := B7.cell 32; simp only [List.getElem?_toArray] at c7; rw [(cz_at c HO.out).1, ← HKK.out] at c7; have Hg3 := hidden g3; clear B7 g3))
      go_ret
      exact ⟨rfl, below_row (grow_trans b1 Hb2.out) Hg3.out (by have := Hg6.out; have := b1.size; omega)⟩

def vRt (mk : Bool) (q : Nat) (c : Ce) (h : Int) : Int := if mk then (if h = 0 then 0 else if q = 0 then 7 else if 0 < vDp mk c then 2 else 0) else 1

set_option maxHeartbeats 1000000 in
theorem root_any {w : World} {v : Value} {mk : Bool} {ct : Int → Nat} {ca : Int → Ce} (V : Vw w v mk ct ca) (h : Int) : Calls Tryz.prog 23 #[v, .int .i64 h] w fun e w' => e = .returned (.int .i64 (vRt mk (ct h) (ca h) h)) ∧ Below w.heap.size w w' := by
  have HM := hidden (V.made w (Below.refl _ _))
  cases mk with
  | false =>
    clear V
    go_enter Tryz.func23, Tryz.ntmps23
    go_wp2_with (go_at_call 46; refine HM.out.mono ?_; rintro e w' ⟨rfl, hx⟩; rw [hx]; clear hx w')
    go_ret
    exact ⟨rfl, Below.refl _ _⟩
  | true =>
    by_cases h0 : h = 0
    · subst h0
      have HV : Hid (vRt true (ct 0) (ca 0) 0 = 0) := rfl
      rw [HV.out]
      clear V HV
      go_enter Tryz.func23, Tryz.ntmps23
      go_wp2_with (go_at_call 46; refine HM.out.mono ?_; rintro e w' ⟨rfl, hx⟩; rw [hx]; clear hx w')
      go_ret
      exact ⟨rfl, Below.refl _ _⟩
    · have HH := hidden (has_any V h)
      have HD : Hid (∀ w', Below w.heap.size w w' → Calls Tryz.prog 27 #[v, .int .i64 h] w' fun e w'' => e = .returned (.int .i64 (vDp true (ca h))) ∧ Below w'.heap.size w' w'') := fun w' hb => depth_any (V.grow hb) h
      have hb0 : (h == 0) = false := by simp [h0]
      by_cases hq : 0 < ct h
      · have e1 : decide (0 < ct h) = true := by simp [hq]
        rw [e1] at HH
        by_cases hd : 0 < vDp true (ca h)
        · have HV : Hid (vRt true (ct h) (ca h) h = 2) := by simp [vRt, h0, hd, Hid]; omega
          rw [HV.out]
          obtain ⟨q, hqq⟩ : ∃ q, q = vDp true (ca h) := ⟨_, rfl⟩
          rw [← hqq] at HD hd
          clear V HV h0 hq e1 hqq
          go_enter Tryz.func23, Tryz.ntmps23
          go_wp2_with (first
            | (go_at_call 46; refine HM.out.mono ?_; rintro e w' ⟨rfl, hx⟩; rw [hx]; clear hx w')
            | (go_at_call 47; refine HH.out.mono ?_; rintro e w1 ⟨rfl, b1⟩)
            | (go_at_call 27; refine (HD.out _ b1).mono ?_; rintro e w2 ⟨rfl, b2⟩))
          go_ret
          exact ⟨rfl, grow_trans b1 b2⟩
        · have HV : Hid (vRt true (ct h) (ca h) h = 0) := by simp [vRt, h0, hd, Hid]; omega
          rw [HV.out]
          obtain ⟨q, hqq⟩ : ∃ q, q = vDp true (ca h) := ⟨_, rfl⟩
          rw [← hqq] at HD hd
          clear V HV h0 hq e1 hqq
          go_enter Tryz.func23, Tryz.ntmps23
          go_wp2_with (first
            | (go_at_call 46; refine HM.out.mono ?_; rintro e w' ⟨rfl, hx⟩; rw [hx]; clear hx w')
            | (go_at_call 47; refine HH.out.mono ?_; rintro e w1 ⟨rfl, b1⟩)
            | (go_at_call 27; refine (HD.out _ b1).mono ?_; rintro e w2 ⟨rfl, b2⟩))
          go_ret
          exact ⟨rfl, grow_trans b1 b2⟩
      · have e1 : decide (0 < ct h) = false := by simp [hq]
        rw [e1] at HH
        have HV : Hid (vRt true (ct h) (ca h) h = 7) := by simp [vRt, h0, Hid]; omega
        rw [HV.out]
        clear V HV h0 hq e1 HD
        go_enter Tryz.func23, Tryz.ntmps23
        go_wp2_with (first
          | (go_at_call 46; refine HM.out.mono ?_; rintro e w' ⟨rfl, hx⟩; rw [hx]; clear hx w')
          | (go_at_call 47; refine HH.out.mono ?_; rintro e w1 ⟨rfl, b1⟩))
        go_ret
        exact ⟨rfl, b1⟩

def vDg (mk : Bool) (ca : Int → Ce) (h : Int) : List Int := if mk = true ∧ h = 0 then emD else (ca h).dig
theorem vDg_len {w : World} {v : Value} {mk : Bool} {ct : Int → Nat} {ca : Int → Ce} (V : Vw w v mk ct ca) (h : Int) : (vDg mk ca h).length = 32 ∧ Bytes (vDg mk ca h) := by
  unfold vDg
  split
  · exact ⟨dig_length _, dig_bytes _⟩
  · exact ⟨(V.ok h).ld, (V.ok h).bd⟩

set_option maxHeartbeats 1000000 in
theorem sdig_any {w : World} {v : Value} {mk : Bool} {ct : Int → Nat} {ca : Int → Ce} (V : Vw w v mk ct ca) (h : Int) (hL : Laid w) : Calls Tryz.prog 119 #[v, .int .i64 h] w fun e w' => e = .returned (.agg (B (vDg mk ca h))) ∧ Below w.heap.size w w' := by
  have HM : Hid (∀ w', Below w.heap.size w w' → Calls Tryz.prog 46 #[v] w' fun e w'' => e = .returned (.bool mk) ∧ w'' = w') := V.made
  by_cases hc : mk = true ∧ h = 0
  · obtain ⟨rfl, rfl⟩ := hc
    have HE : Hid (∀ w', Below w.heap.size w w' → Calls Tryz.prog 57 #[] w' (DigPost [0] w')) := fun w' hb => empty_any w' (hL.grow hb)
    have HD : Hid (vDg true ca 0 = dig [0]) := rfl
    have HSZ : Hid ((B (dig [0])).size = 32) := by rw [B_size]; exact dig_length _
    rw [HD.out]
    generalize hDD : dig [0] = D at HSZ ⊢
    have HE' : Hid (∀ w', Below w.heap.size w w' → Calls Tryz.prog 57 #[] w' fun e w'' => e = .returned (.agg (B D)) ∧ Below w'.heap.size w' w'') := by rw [← hDD]; exact HE
    clear HD V hL hDD HE
    go_enter Tryz.func119, Tryz.ntmps119
    go_wp2_with (first
      | ((with_reducible refine at_ald 4 ?_); refine wpList_al _ rfl _ rfl _ zero_hash ?_; intro w1 b4 hg4 hl4 B4 b1; have HB4 := hidden B4; have Hg4 := hidden hg4; clear B4 hg4 hl4)
      | (go_at_call 46; refine (HM.out _ b1).mono ?_; rintro e w' ⟨rfl, hx⟩; rw [hx]; clear hx w')
      | (go_at_call 57; refine (HE'.out _ b1).mono ?_; rintro e w2 ⟨rfl, b2⟩; have B4' := hidden (HB4.out.grow b2); have Hb2 := hidden b2; clear b2)
      | ((with_reducible refine at_st 4 ?_); refine wpList_sto _ rfl _ _ _ rfl b4 _ (B D) rfl rfl B4'.out (by rw [HSZ.out]; exact size_hash) (by rw [HSZ.out, B_size]; simp) (B_one _) ?_; intro w3 B5 g3))
    exact bodyPost_ret (v := .agg (B D)) (results_cell_row rfl _ _ b4 _ _ _ _ rfl B5 Tryz.underlying25 rfl (by rw [HSZ.out]; exact size_hash)) rfl ⟨rfl, below_row (grow_trans b1 Hb2.out) g3 Hg4.out⟩
  · have HA : Hid (∀ w', Below w.heap.size w w' → Calls Tryz.prog 48 #[v, .int .i64 h] w' fun e w'' => e = .returned (.agg (cz (ca h)).toArray) ∧ Below w'.heap.size w' w'') := fun w' hb => V.atv w' h hb
    have hf := fld_dig (ca h) (V.ok h)
    have HD : Hid (vDg mk ca h = (ca h).dig) := by simp [vDg, hc, Hid]
    have HSZ : Hid ((B (ca h).dig).size = 32) := by rw [B_size]; exact (V.ok h).ld
    rw [HD.out]
    obtain ⟨c, hcc⟩ : ∃ c, c = ca h := ⟨_, rfl⟩
    rw [← hcc] at HA hf HSZ
    rw [← hcc]
    have hcase : (mk = false) ∨ (mk = true ∧ (h == 0) = false) := by
      cases mk with
      | false => exact .inl rfl
      | true => exact .inr ⟨rfl, by simpa using hc⟩
    clear HD V hL hcc hc
    rcases hcase with rfl | ⟨rfl, hb0⟩
    all_goals
      go_enter Tryz.func119, Tryz.ntmps119
      go_wp2_with (first
        | ((with_reducible refine at_ald 4 ?_); refine wpList_al _ rfl _ rfl _ zero_hash ?_; intro w1 b4 hg4 hl4 B4 b1; have HB4 := hidden B4; have Hg4 := hidden hg4; clear B4 hg4 hl4)
        | (go_at_call 46; refine (HM.out _ b1).mono ?_; rintro e w' ⟨rfl, hx⟩; rw [hx]; clear hx w')
        | (go_at_call 48; refine (HA.out _ b1).mono ?_; rintro e w2 ⟨rfl, b2⟩; have B4' := hidden (HB4.out.grow b2); have Hb2 := hidden b2; clear b2)
        | ((with_reducible refine at_st 4 ?_); refine wpList_sto _ rfl _ _ _ rfl b4 _ (B c.dig) rfl rfl B4'.out (by rw [HSZ.out]; exact size_hash) (by rw [HSZ.out, B_size]; simp) (B_one _) ?_; intro w3 B5 g3))
      exact bodyPost_ret (v := .agg (B c.dig)) (results_cell_row rfl _ _ b4 _ _ _ _ rfl B5 Tryz.underlying25 rfl (by rw [HSZ.out]; exact size_hash)) rfl ⟨rfl, below_row (grow_trans b1 Hb2.out) g3 Hg4.out⟩

end Go.Proofs.YtnnmfgnommbmkaaGreatDoor

namespace Go.Proofs.YtnnmfgnommbmkaaGreatDoor
set_option maxRecDepth 20000
open Go.RowKit

set_option maxHeartbeats 400000 in
theorem newS_ok (room : Nat) (w : World) (h1 : 1 ≤ room) (h2 : room ≤ 65536) : Calls Tryz.prog 19 #[.int .i64 (room : Int)] w fun e w' => ∃ g gs, e = .returned (.tuple #[.pointer (some ⟨g, 0, none⟩), .int .i64 0]) ∧ w.heap.size ≤ g ∧ w.heap.size ≤ gs ∧ Stm w' g gs (.slice none 0 0) (.slice none 0 0) room [] [] ∧ Below w.heap.size w w' := by
  have HN := hidden (new_okC room w h1 h2)
  clear h1 h2
  go_enter Tryz.func19, Tryz.ntmps19
  go_wp2_with (go_at_call 37; refine HN.out.mono ?_; rintro e w1 ⟨gs, rfl, hg, S1, b1⟩; have HS1 := hidden S1; have Hb1 := hidden b1; have Hg := hidden hg; clear S1 b1 hg)
  go_ret2
  exact ⟨w1.heap.size, gs, rfl, Hb1.out.size, Hg.out, ⟨Blk.new _ _ _, HS1.out.mod (Mod.alloc _ _ []) (fun _ _ h => by cases h), fun i => by simp only [ce, List.getElem?_nil, Option.getD_none]; exact ⟨[], Own.nil _ _⟩⟩, Hb1.out.trans ((grow_alloc w1 _).mono Hb1.out.size)⟩

set_option maxHeartbeats 400000 in
theorem holdS_via {w : World} {g gs : Nat} {vp vf : Value} {room : Nat} {cs : List (Nat × Ce)} {fr : List Nat} (s : Stm w g gs vp vf room cs fr) (h q : Int) (P : World → Prop) (hc : Calls Tryz.prog 92 #[.pointer (some ⟨gs, 0, none⟩), .int .i64 h] w fun e w' => e = .returned (.int .i64 q) ∧ P w') : Calls Tryz.prog 69 #[.pointer (some ⟨g, 0, none⟩), .int .i64 h] w fun e w' => e = .returned (.int .i64 q) ∧ P w' := by
  have c0 := s.c0
  have c1 := s.c1
  have HC := hidden hc
  clear s hc
  go_enter Tryz.func69, Tryz.ntmps69
  go_wp2_with (first
    | (go_at_call 46; refine (madeS_ok g _ c0).mono ?_; rintro e w' ⟨rfl, hx⟩; rw [hx]; clear hx w')
    | (go_at_call 92; refine HC.out.mono ?_; rintro e w2 ⟨rfl, hp⟩; have HP := hidden hp; clear hp))
  go_ret
  exact ⟨rfl, HP.out⟩

def moreC (cs : List (Nat × Ce)) (i : Nat) : List (Nat × Ce) := cs.set i (cc cs i + 1, ce cs i)
theorem moreC_ce (cs : List (Nat × Ce)) (i j : Nat) : ce (moreC cs i) j = ce cs j := by
  unfold moreC
  by_cases hi : i < cs.length
  · rw [ce_set cs i j _ hi]
    split
    · next e => rw [e]
    · rfl
  · rw [List.set_eq_of_length_le (by omega)]

theorem holdS_bad {w : World} {g gs : Nat} {vp vf : Value} {room : Nat} {cs : List (Nat × Ce)} {fr : List Nat} (s : Stm w g gs vp vf room cs fr) (h : Int) (hc : cot cs h = 0) : Calls Tryz.prog 69 #[.pointer (some ⟨g, 0, none⟩), .int .i64 h] w fun e w' => e = .returned (.int .i64 7) ∧ w' = w :=
  holdS_via s h 7 _ (hold_badC gs vp vf room _ fr h w s.sl ((cot_out cs h).2 hc))
theorem holdS_ok {w : World} {g gs : Nat} {vp vf : Value} {room : Nat} {cs : List (Nat × Ce)} {fr : List Nat} (s : Stm w g gs vp vf room cs fr) (i : Nat) (h0 : 0 < cc cs i) (h1 : cc cs i < 1073741824) : Calls Tryz.prog 69 #[.pointer (some ⟨g, 0, none⟩), .int .i64 ((i : Int) + 1)] w fun e w' => e = .returned (.int .i64 0) ∧ STurn w g gs (stB g gs vp vf cs) room (moreC cs i) fr w' := by
  refine holdS_via s _ 0 _ ((hold_okC gs vp vf room _ fr _ i w s.sl rfl (by rw [cnt_pl]; exact h0) (by rw [cnt_pl]; exact h1)).mono ?_)
  rintro e w' ⟨rfl, t⟩
  rw [cnt_pl, thg_pl cs i (cc_lt h0), map_set] at t
  exact ⟨rfl, s.turn' (Below.refl _ _) t (fun j => .inr ⟨j, by show (ce (moreC cs i) j).val = _; rw [moreC_ce], by show (ce (moreC cs i) j).bs = _; rw [moreC_ce]⟩)⟩

set_option maxHeartbeats 400000 in
theorem occS_ok {w : World} {g gs : Nat} {vp vf : Value} {room : Nat} {cs : List (Nat × Ce)} {fr : List Nat} (s : Stm w g gs vp vf room cs fr) : Calls Tryz.prog 62 #[.pointer (some ⟨g, 0, none⟩)] w fun e w' => e = .returned (.int .i64 (noc cs : Int)) ∧ Below w.heap.size w w' := by
  have c0 := s.c0
  have c1 := s.c1
  have HC := hidden (len_okC gs vp vf room _ fr w s.sl)
  clear s
  go_enter Tryz.func62, Tryz.ntmps62
  go_wp2_with (first
    | (go_at_call 46; refine (madeS_ok g _ c0).mono ?_; rintro e w' ⟨rfl, hx⟩; rw [hx]; clear hx w')
    | (go_at_call 89; refine HC.out.mono ?_; rintro e w1 ⟨rfl, b1⟩))
  go_ret
  exact ⟨rfl, b1⟩

set_option maxHeartbeats 400000 in
theorem roomS_ok {w : World} {g gs : Nat} {vp vf : Value} {room : Nat} {cs : List (Nat × Ce)} {fr : List Nat} (s : Stm w g gs vp vf room cs fr) : Calls Tryz.prog 63 #[.pointer (some ⟨g, 0, none⟩)] w fun e w' => e = .returned (.int .i64 (room : Int)) ∧ Below w.heap.size w w' := by
  have c0 := s.c0
  have c1 := s.c1
  have HC := hidden (room_okC gs vp vf room _ fr w s.sl)
  clear s
  go_enter Tryz.func63, Tryz.ntmps63
  go_wp2_with (first
    | (go_at_call 46; refine (madeS_ok g _ c0).mono ?_; rintro e w' ⟨rfl, hx⟩; rw [hx]; clear hx w')
    | (go_at_call 90; refine HC.out.mono ?_; rintro e w' ⟨rfl, hx⟩; rw [hx]; clear hx w'))
  go_ret
  exact ⟨rfl, Below.refl _ _⟩

set_option maxHeartbeats 400000 in
theorem may_any {w : World} {v : Value} {mk : Bool} {ct : Int → Nat} {ca : Int → Ce} (V : Vw w v mk ct ca) (h : Int) : Calls Tryz.prog 95 #[v, .int .i64 h] w fun e w' => e = .returned (.bool (decide (h = 0 ∨ (ca h).ab < ct h))) ∧ Below w.heap.size w w' := by
  have HH := hidden (held_any V h)
  by_cases h0 : h = 0
  · subst h0
    have e0 : decide ((0 : Int) = 0 ∨ (ca 0).ab < ct 0) = true := by simp
    rw [e0]
    clear V e0
    go_enter Tryz.func95, Tryz.ntmps95
    go_wp2
    go_ret
    exact ⟨rfl, Below.refl _ _⟩
  · have hb0 : (h == 0) = false := by simp [h0]
    have e0 : decide (h = 0 ∨ (ca h).ab < ct h) = decide (0 < ct h - (ca h).ab) := by
      have : (h = 0 ∨ (ca h).ab < ct h) ↔ (0 < ct h - (ca h).ab) := by omega
      simp [this]
    rw [e0]
    obtain ⟨q, hq⟩ : ∃ q, q = ct h - (ca h).ab := ⟨_, rfl⟩
    rw [← hq] at HH
    rw [← hq]
    have e1 : decide ((0 : Int) < (q : Int)) = decide (0 < q) := by simp
    clear V e0 h0 hq
    go_enter Tryz.func95, Tryz.ntmps95
    go_wp2_with (go_at_call 73; refine HH.out.mono ?_; rintro e w1 ⟨rfl, b1⟩)
    go_ret
    exact ⟨rfl, b1⟩

theorem wpList_ldw {ops : Array Oper} {rest : List Oper} {op : Oper} {a : Act} {Q : Exit → Act → World → Prop} (w : World) (hgd : Region.wanted op (yielded ops a.tmps) = true) (ty : TypeId) (x : Operand) (ho : op.op = .load ty x)
    (b o : Nat) (hx : a.eval x = .pointer (some ⟨b, o, none⟩)) (cs : List Value) (d : TypeDesc) (hc : w.rangeAt b o cs) (hu : Tryz.prog.underlying ty = some d) (hd : d.isRow = true) (hi : (Tryz.prog.info? ty).map (·.size) = some cs.length)
    (h : wpList Tryz.prog ops Q rest (a.put op.dst (.agg cs.toArray)) w) : wpList Tryz.prog ops Q (op :: rest) a w :=
  BigFrame.wpList_want hgd fun _ hK => wp_load_mid ty x ho b o hx cs d hc hu hd hi (hK _ _ h)

def fsP (c : Ce) (d : Nat) (b : Int) : Bool := if c.kind = 1 then decide (kb c.key d = b) else if c.kind = 2 then decide (c.dp = d + 1) && decide (kb c.key d = b) else true

theorem key_sz {c : Ce} (h : CeOk c) : (Tryz.prog.info? 32).map (·.size) = some (c.key.map (Value.int .u8)).length := by rw [List.length_map, h.hk.1]; exact size_path

set_option maxHeartbeats 1000000 in
theorem fits_any (c : Ce) (d : Nat) (b : Int) (w : World) (hc : CeOk c) (hd : d < 256) : Calls Tryz.prog 117 #[.agg (cz c).toArray, .int .i64 (d : Int), .int .i64 b] w fun e w' => e = .returned (.bool (fsP c d b)) ∧ Below w.heap.size w w' := by
  have HO := hidden hc
  have HB : Hid (∀ w', Calls Tryz.prog 26 #[.agg (B c.key), .int .i64 (d : Int)] w' fun e w'' => e = .returned (.int .i64 (kb c.key d)) ∧ Below w'.heap.size w' w'') := fun w' => bit_in c.key d w' hc.hk hd
  obtain ⟨x, hx⟩ : ∃ x, x = kb c.key d := ⟨_, rfl⟩
  rw [← hx] at HB
  have hw1 : wrap64 ((d : Int) + 1) = (d : Int) + 1 := Go.IntWalk.wrap64_in _ (by omega)
  by_cases h1 : c.kind = 1
  · have HV : Hid (fsP c d b = (x == b)) := by
      show _ = _
      rw [fsP, if_pos h1, ← hx]
      by_cases e : x = b <;> simp [e]
    rw [HV.out]
    have HK := hidden h1
    clear HV h1 hc hx hd hw1
    go_enter Tryz.func117, Tryz.ntmps117
    go_wp2_with (first
      | ((with_reducible refine at_bxd 3 ?_); refine wpList_bx _ rfl _ _ rfl _ rfl ?_; intro w1 b3 hg3 hl3 B3 b1; have HB3 := hidden B3; have c7 := B3.cell 32; simp only [List.getElem?_toArray] at c7; rw [(cz_at c HO.out).1, HK.out] at c7; clear hg3 hl3 B3)
      | ((with_reducible refine at_ldd 12 11 ?_); refine wpList_load_mid rfl _ _ rfl b3 35 rfl (c.key.map (Value.int .u8)) _ ((segK c HO.out).range HB3.out) Tryz.underlying32 rfl (key_sz HO.out) ?_)
      | (go_at_call 26; refine (HB.out _).mono ?_; rintro e w2 ⟨rfl, b2⟩))
    go_ret
    exact ⟨rfl, grow_trans b1 b2⟩
  · have n1 : (c.kind == 1) = false := by simp [h1]
    by_cases h2 : c.kind = 2
    · by_cases h3 : c.dp = d + 1
      · have HV : Hid (fsP c d b = (x == b)) := by
          show _ = _
          rw [fsP, if_neg h1, if_pos h2, ← hx]
          by_cases e : x = b <;> simp [e, h3]
        rw [HV.out]
        have HK := hidden h2
        have HD : Hid ((c.dp : Int) = (d : Int) + 1) := by show (c.dp : Int) = _; omega
        clear HV h1 n1 h2 h3 hc hx hd
        go_enter Tryz.func117, Tryz.ntmps117
        go_wp2_with (first
          | ((with_reducible refine at_bxd 3 ?_); refine wpList_bx _ rfl _ _ rfl _ rfl ?_; intro w1 b3 hg3 hl3 B3 b1; have HB3 := hidden B3; have c7 := B3.cell 32; have c8 := B3.cell 68; simp only [List.getElem?_toArray] at c7 c8; rw [(cz_at c HO.out).1, HK.out] at c7; rw [(cz_at c HO.out).2.2.2.2.1, HD.out] at c8; clear hg3 hl3 B3)
          | ((with_reducible refine at_ldd 26 25 ?_); refine wpList_ldw _ rfl _ _ rfl b3 35 rfl (c.key.map (Value.int .u8)) _ ((segK c HO.out).range HB3.out) Tryz.underlying32 rfl (key_sz HO.out) ?_)
          | (go_at_call 26; refine (HB.out _).mono ?_; rintro e w2 ⟨rfl, b2⟩))
        go_ret
        exact ⟨rfl, grow_trans b1 b2⟩
      · have HV : Hid (fsP c d b = false) := by
          show _ = _
          rw [fsP, if_neg h1, if_pos h2]
          simp [h3]
        rw [HV.out]
        have HK := hidden h2
        have hd1 : ((c.dp : Int) == (d : Int) + 1) = false := by simp; omega
        clear HV h1 n1 h2 h3 hc hx hd HB
        go_enter Tryz.func117, Tryz.ntmps117
        go_wp2_with (first
          | ((with_reducible refine at_bxd 3 ?_); refine wpList_bx _ rfl _ _ rfl _ rfl ?_; intro w1 b3 hg3 hl3 B3 b1; have c7 := B3.cell 32; have c8 := B3.cell 68; simp only [List.getElem?_toArray] at c7 c8; rw [(cz_at c HO.out).1, HK.out] at c7; rw [(cz_at c HO.out).2.2.2.2.1] at c8; clear hg3 hl3 B3))
        go_ret
        exact ⟨rfl, b1⟩
    · have n2 : (c.kind == 2) = false := by simp [h2]
      have HV : Hid (fsP c d b = true) := by
        show _ = _
        rw [fsP, if_neg h1, if_neg h2]
      rw [HV.out]
      obtain ⟨k, hk⟩ : ∃ k, k = c.kind := ⟨_, rfl⟩
      have HK := hidden hk
      rw [← hk] at n1 n2
      clear HV h1 h2 hc hx hd HB hk
      go_enter Tryz.func117, Tryz.ntmps117
      go_wp2_with (first
        | ((with_reducible refine at_bxd 3 ?_); refine wpList_bx _ rfl _ _ rfl _ rfl ?_; intro w1 b3 hg3 hl3 B3 b1; have c7 := B3.cell 32; simp only [List.getElem?_toArray] at c7; rw [(cz_at c HO.out).1, ← HK.out] at c7; clear hg3 hl3 B3))
      go_ret
      exact ⟨rfl, b1⟩

end Go.Proofs.YtnnmfgnommbmkaaGreatDoor
