/- verify.Read, Present, Absent and Top, as contracts. -/
import Derived.Test.YtpihigcnoifcfaaGreatDoorVw34
import Derived.Test.YtpihigcnoifcfaaGreatDoorVw12
import Derived.Test.YtpihigcnoifcfaaGreatDoorVw11
import Derived.Test.YtpihigcnoifcfaaGreatDoorVw19
import Derived.Test.YtpihigcnoifcfaaGreatDoorVw22
import Derived.Test.YtpihigcnoifcfaaGreatDoorVw20
import Derived.Test.YtpihigcnoifcfaaGreatDoorVw16
import Derived.Test.YtpihigcnoifcfaaGreatDoorVw26
namespace Go.Proofs.YtpihigcnoifcfaaGreatDoor
set_option maxRecDepth 20000
open Go.RowKit

theorem said_room {w : World} {g : Nat} {t : TypeId} (h : Blk w g t (sdP false z32).toArray) (V : List Int) (hV : V.length = 32) : (w.setCell ⟨g, 0, none⟩ (.bool true)).there g 1 (B V).size := (h.set 0 (.bool true)).there 1 _ (by simp [sdP, B_size, z32, hV])

theorem part_bool (t : Bool) (V : List Int) (w : World) : (part 4 (sdP t V).toArray 0).run Tryz.prog w = .ok (.bool t) w := by
  have hagg : (isAgg 4).run Tryz.prog w = .ok false w := Tryz.isAgg4 w
  unfold part
  rw [Sem.run_bind, hagg]
  simp [sdP]
theorem part_val (t : Bool) (V : List Int) (h : V.length = 32) (w : World) : (part 25 (sdP t V).toArray 1).run Tryz.prog w = .ok (.agg (B V)) w := by
  obtain ⟨i, hq, hz⟩ : ∃ i, Tryz.prog.info? 25 = some i ∧ i.size = 32 := ⟨_, rfl, rfl⟩
  have hagg : (isAgg 25).run Tryz.prog w = .ok true w := by
    unfold isAgg
    rw [Sem.run_bind, run_underlying Tryz.underlying25 w]
    rfl
  have hex : List.take 32 (sdP t V).tail = V.map (Value.int .u8) := by rw [show (sdP t V).tail = V.map (Value.int .u8) from rfl, List.take_of_length_le (by simp [h])]
  simp [part, Sem.run_bind, hagg, sizeOf, typeInfo, hq, hz, hex, B]
theorem said_eq {t u : Bool} {V U : List Int} (h : V.length = 32) (h' : U.length = 32) (w : World) :
    (Op.equalIn 10000 39 (.agg (sdP t V).toArray) (.agg (sdP u U).toArray)).run Tryz.prog w = .ok ((t == u) && decide (V = U)) w := by
  have hf : ∃ f0 f1 : Field, (Tryz.prog.fieldsOf 39).toList = [f0, f1] ∧ (f0.name ≠ "_" ∧ f0.type = 4 ∧ f0.offset = 0) ∧ (f1.name ≠ "_" ∧ f1.type = 25 ∧ f1.offset = 1) :=
    ⟨_, _, rfl, ⟨by decide, rfl, rfl⟩, ⟨by decide, rfl, rfl⟩⟩
  obtain ⟨f0, f1, hF, ⟨n0, t0, o0⟩, ⟨n1, t1, o1⟩⟩ := hf
  have hu : Tryz.prog.underlying 39 = some (.struct (Tryz.prog.fieldsOf 39)) := by kernel_rfl
  have e0 : ∀ w, (Op.equalIn 9999 4 (.bool t) (.bool u)).run Tryz.prog w = .ok (t == u) w := fun w => run_equalIn_bool (P := Tryz.prog) w 9998 4 t u Tryz.underlying4
  have e1 : ∀ w, (Op.equalIn 9999 25 (.agg (B V)) (.agg (B U))).run Tryz.prog w = .ok (decide (V = U)) w := fun w => arr_eqd 9997 Tryz.underlying25 V U h h' w
  rw [show (10000 : Nat) = 9999 + 1 from rfl, run_equalIn_struct w 9999 39 _ _ hu (by kernel_rfl), hF,
    eqF_cons n0 (by rw [t0, o0]; exact part_bool t V w) (by rw [t0, o0]; exact part_bool u U w) (by rw [t0]; exact e0 w),
    eqF_cons n1 (by rw [t1, o1]; exact part_val t V h w) (by rw [t1, o1]; exact part_val u U h' w) (by rw [t1]; exact e1 w)]
  simp only [Op.eqFields, Sem.run_pure]
  cases t <;> cases u <;> by_cases e : V = U <;> simp [e]

theorem rdV_length (root key zs : List Int) (k : Int) (a b c d : List Int) (hb : b.length = 32) : (rdV root key zs k a b c d).length = 32 := by
  unfold rdV
  split
  · exact hb
  · rfl

/-- Decode, with the end told by its parts. -/
theorem dec_at {v : Value} {zs : List Int} {w : World} (h : Reads w v zs) (hl : zs.length ≤ 140737488355328) (hL : Laid w) {N : List Int} (hn : dpN zs = N) :
    Calls Tryz.prog 18 #[v] w fun e w' => ∃ qa qc, e = .returned (.tuple #[.agg (encR (.slice qa (dpH zs).length qc) N).toArray, .int .i64 (dpE zs)]) ∧ HsAt w' (.slice qa (dpH zs).length qc) (dpH zs) ∧ Below w.heap.size w w' := by
  have hb : Bytes zs := by obtain ⟨_, _, _, _, _, hb, _⟩ := h; exact hb
  refine (pkdecode_any v zs w h hl hL).mono ?_
  rintro e w' ⟨a, c, h1, h2, h3⟩
  rw [hn] at h1
  exact ⟨a, c, h1, hsAt_own (base := w.heap.size) h2 (dp_dg hb), h3⟩

set_option maxHeartbeats 8000000 in
theorem vread_any (root key : List Int) (v : Value) (zs : List Int) (k : Int) (a b c d : List Int) (w : World) (hroot : Key root) (hkey : Key key) (h : Reads w v zs) (hl : zs.length ≤ 140737488355328) (hL : Laid w) (hn : dpN zs = nd k a b c d) (hN : Nd k a b c d) :
    Calls Tryz.prog 6 #[.agg (B root), .agg (B key), v] w fun e w' => e = .returned (.tuple #[.agg (sdP (rdB root key zs k a b c d) (rdV root key zs k a b c d)).toArray, .int .i64 (rdE root key zs k a b c d)]) ∧ Below w.heap.size w w' := by
  have hb : Bytes zs := by obtain ⟨_, _, _, _, _, hb, _⟩ := h; exact hb
  have KV := hidden h.kp
  have KW := hidden (below_kp w)
  have KL := hidden hL.kp
  have hDe : ∀ w', Reads w' v zs → Laid w' → Calls Tryz.prog 18 #[v] w' fun e w'' => ∃ qa qc, e = .returned (.tuple #[.agg (encR (.slice qa (dpH zs).length qc) (nd k a b c d)).toArray, .int .i64 (dpE zs)]) ∧ HsAt w'' (.slice qa (dpH zs).length qc) (dpH zs) ∧ Below w'.heap.size w' w'' := fun w' h1 h2 => dec_at h1 hl h2 hn
  obtain ⟨fs, hus⟩ := u_said
  have HUS := hidden hus
  obtain ⟨fp, hup⟩ := u_proof
  have HUP := hidden hup
  have HSP : Hid (∀ s', (Tryz.prog.info? 35).map (·.size) = some (encR s' (nd k a b c d)).toArray.size ∧ (encR (.slice none 0 0) (List.replicate 129 0)).toArray.size = (encR s' (nd k a b c d)).toArray.size) := fun s' => ⟨encR_sz _ _ hN.length, by simp [encR, hN.length]⟩
  have HS0 := hidden (said_sz false z32 rfl)
  have HS1 := hidden (said_sz true b hN.lb)
  have HSr := hidden (hash_sz root hroot.1)
  have HSk : Hid ((Tryz.prog.info? 24).map (·.size) = some (B key).size) := by show _ = _; rw [B_size, hkey.1]; exact sz_path
  have HNl := hidden hN.length
  obtain ⟨va, vc, rfl, _⟩ := h
  obtain ⟨l, hll⟩ : ∃ l, l = zs.length := ⟨_, rfl⟩
  rw [← hll] at KV hDe ⊢
  by_cases ho : okD zs
  · have hg := okD_end hb ho hn hN
    have HE : dpE zs = 0 := by rw [dpE, if_pos ho]
    rw [HE] at hDe
    have hAc : ∀ w' s', HsAt w' s' (dpH zs) → Laid w' → Calls Tryz.prog 19 #[.agg (B root), .agg (B key), .agg (encR s' (nd k a b c d)).toArray] w' fun e w'' => e = .returned (.bool (vfA root key (dpH zs) k a b c d)) ∧ Below w'.heap.size w' w'' := fun w' s' h1 h2 => accepted_any root key s' _ k a b c d w' hroot hkey h1 hN dp_len hg.1 hg.2 h2
    have hLe : ∀ w', Calls Tryz.prog 20 #[.agg (B key), .agg (B (nd k a b c d))] w' fun e w'' => e = .returned (.bool (vfO key k a)) ∧ Below w'.heap.size w' w'' := fun w' => leafOf_any key k a b c d w' hkey hN
    have HRg : Hid (∀ w g t s', Blk w g t (encR s' (nd k a b c d)).toArray → w.rangeAt g 34 (b.map (Value.int .u8))) := fun w g t s' h => end_part h hN.segB
    have HLb : Hid ((Tryz.prog.info? 25).map (·.size) = some (B b).toList.length) := hash_ln b hN.lb
    have HLb2 := hidden (hash_sz b hN.lb)
    have HLen : Hid (b.length = 32) := hN.lb
    have HS2 : Hid ((sdP true b).toArray.size = (sdP true b).toArray.size) := rfl
    have HB1 : Hid ((Tryz.prog.info? 4).map (·.size) = some 1) := by show _ = _; kernel_rfl
    by_cases hA : vfA root key (dpH zs) k a b c d = true
    · have hrE : rdE root key zs k a b c d = 0 := by rw [rdE, if_pos ho, if_pos hA]
      rw [hA] at hAc
      by_cases hO : vfO key k a = true
      · have hrB : rdB root key zs k a b c d = true := by simp [rdB, rdA, ho, hA, hO]
        have hrV : rdV root key zs k a b c d = b := by rw [rdV, if_pos hrB]
        rw [hO] at hLe
        rw [hrE, hrB, hrV]
        have HDe := hidden hDe
        have HAc := hidden hAc
        have HLe := hidden hLe
        clear hDe hAc hLe hll hl hn hN hus hup hL hroot hkey hrE hrB hrV HE ho hb hg
        generalize dpH zs = HH at *
        obtain ⟨n, hnn⟩ : ∃ n, n = HH.length := ⟨_, rfl⟩
        rw [← hnn] at HDe
        clear hnn
        generalize nd k a b c d = N at *
        go_enter Tryz.func6, Tryz.ntmps6
        go_wp2_with (first
          | ((with_reducible refine at_bxd 3 ?_); refine wpList_bx _ rfl _ _ rfl _ rfl ?_; intro x1 g3 hg1 hl1 bq1 q1; replace KV := hidden (KV.out.step q1); replace KW := hidden (KW.out.step q1); replace KL := hidden (KL.out.step q1); have K3 := hidden bq1.kp; clear hg1 hl1 bq1 q1)
          | ((with_reducible refine at_bxd 4 ?_); refine wpList_bx _ rfl _ _ rfl _ rfl ?_; intro x2 g4 hg2 hl2 bq2 q2; replace KV := hidden (KV.out.step q2); replace KW := hidden (KW.out.step q2); replace KL := hidden (KL.out.step q2); replace K3 := hidden (K3.out.step q2); have K4 := hidden bq2.kp; clear hg2 hl2 bq2 q2)
          | ((with_reducible refine at_ald 6 ?_); refine wpList_al _ rfl _ rfl _ zero_said ?_; intro x3 g6 hg6 hl6 B6 q3; have HG6 : Hid (w.heap.size ≤ g6) := Nat.le_trans KW.out.now.size hg6; replace KV := hidden (KV.out.step q3); replace KW := hidden (KW.out.step q3); replace KL := hidden (KL.out.step q3); replace K3 := hidden (K3.out.step q3); replace K4 := hidden (K4.out.step q3); have K6 := hidden B6.kp; clear hg6 hl6 B6 q3)
          | ((with_reducible refine at_ald 8 ?_); refine wpList_al _ rfl _ rfl _ zero_proof ?_; intro x5 g8 hg8 hl5 bq5 q5; have HNE : Hid (g8 ≠ g6) := (by have h1 := K6.out.now.lt; show _ ≠ _; omega); clear hl5)
          | ((with_reducible refine at_st 8 ?_); refine wpList_sto _ rfl _ _ _ rfl g8 _ ((encR (.slice qa n qc) N).toArray) rfl rfl bq5 (HSP.out _).1 (HSP.out _).2 (encR_one _ _ _ _) ?_; intro x6 by6 r6; have q6 := below_row q5 r6 hg8; replace KV := hidden (KV.out.step q6); replace KW := hidden (KW.out.step q6); replace KL := hidden (KL.out.step q6); replace K3 := hidden (K3.out.step q6); replace K4 := hidden (K4.out.step q6); replace K6 := hidden (K6.out.step q6); replace KQ := hidden (KQ.out.step q6); have K8 := hidden by6.kp; clear q6 q5 r6 by6 bq5 hg8)
          | ((with_reducible refine at_ldd 20 3 ?_); refine wpList_ld _ rfl _ _ rfl g3 _ rfl K3.out.now _ _ Tryz.underlying25 HSr.out.1 ?_)
          | ((with_reducible refine at_ldd 21 4 ?_); refine wpList_ld _ rfl _ _ rfl g4 _ rfl K4.out.now _ _ Tryz.underlying24 HSk.out ?_)
          | ((with_reducible refine at_ldd 22 8 ?_); refine wpList_lds _ rfl _ _ rfl g8 _ _ rfl K8.out.now HUP.out (HSP.out _).1 ?_)
          | ((with_reducible refine at_ldd 27 4 ?_); refine wpList_ld _ rfl _ _ rfl g4 _ rfl K4.out.now _ _ Tryz.underlying24 HSk.out ?_)
          | ((with_reducible refine at_ldd 29 28 ?_); refine wpList_lde _ rfl _ rfl g8 _ _ N rfl K8.out.now HNl.out ?_)
          | (go_at_call 20; refine (HLe.out _).mono ?_; rintro e x8 ⟨rfl, q8⟩; replace KV := hidden (KV.out.step q8); replace KW := hidden (KW.out.step q8); replace KL := hidden (KL.out.step q8); replace K3 := hidden (K3.out.step q8); replace K4 := hidden (K4.out.step q8); replace K6 := hidden (K6.out.step q8); replace KQ := hidden (KQ.out.step q8); replace K8 := hidden (K8.out.step q8); have mk_fverifyisLeafOf_1 : Hid True := trivial; clear q8)
          | (go_at_call 19; refine (HAc.out _ _ KQ.out.now KL.out.now).mono ?_; rintro e x7 ⟨rfl, q7⟩; replace KV := hidden (KV.out.step q7); replace KW := hidden (KW.out.step q7); replace KL := hidden (KL.out.step q7); replace K3 := hidden (K3.out.step q7); replace K4 := hidden (K4.out.step q7); replace K6 := hidden (K6.out.step q7); replace KQ := hidden (KQ.out.step q7); replace K8 := hidden (K8.out.step q7); have mk_fverifyaccepted_1 : Hid True := trivial; clear q7)
          | (go_at_call 18; refine (HDe.out _ KV.out.now KL.out.now).mono ?_; rintro e x4 ⟨qa, qc, rfl, hq, q4⟩; replace KV := hidden (KV.out.step q4); replace KW := hidden (KW.out.step q4); replace KL := hidden (KL.out.step q4); replace K3 := hidden (K3.out.step q4); replace K4 := hidden (K4.out.step q4); replace K6 := hidden (K6.out.step q4); have KQ := hidden hq.kp; clear hq; have mk_fpackDecode_1 : Hid True := trivial; clear q4))
        have B8 := K8.out.now.drew
        have B6 := K6.out.now.drew
        have hne : g8 ≠ g6 := HNE.out
        have hr1 := said_room B6 b HLen.out
        have B6' := blk_said B6 b HLen.out
        have hgr : x8.drew.grownBy ((x8.drew.setCell ⟨g6, 0, none⟩ (.bool true)).setCells g6 1 (B b).toList) (some g6) := grown_trans (grown_setCell _ _ _ _) (grown_setCells g6 (B b).toList 1 _)
        refine wp_region_held_drew (S := fun w' => Blk w' g8 35 (encR (.slice qa n qc) N).toArray) (by kernel_rfl) (B8) (fun hHeld => ?_)
        refine wpAnyH_take (i := 0) (v := .pointer (some ⟨g8, 1, none⟩)) rfl (by kernel_rfl) (by kernel_rfl) (by kernel_rfl) (fun _ _ _ h => h) (Or.inl ⟨by rfl, fun w hS => by go_simp⟩) hHeld ?_
        simp only [Act.put, List.getElem_toArray, List.getElem_cons_zero, List.setIfInBounds_toArray, List.set_cons_zero, List.set_cons_succ]
        refine wpAnyH_take (i := 1) (v := .pointer (some ⟨g8, 34, none⟩)) rfl (by kernel_rfl) (by kernel_rfl) (by kernel_rfl) (fun _ _ _ h => h) (Or.inl ⟨by rfl, fun w hS => by go_simp⟩) hHeld ?_
        simp only [Act.put, List.getElem_toArray, List.getElem_cons_zero, List.getElem_cons_succ, List.setIfInBounds_toArray, List.set_cons_zero, List.set_cons_succ]
        refine wpAnyH_take (i := 2) (v := .agg (B b)) rfl (by kernel_rfl) (by kernel_rfl) (by kernel_rfl) (fun _ _ _ h => h) (yieldsIf_load_mid rfl 25 (.tmp 32) rfl g8 34 rfl (B b).toList _ (fun w hS => HRg.out _ _ _ _ hS) Tryz.underlying25 rfl HLb.out) hHeld ?_
        simp only [Act.put, List.getElem_toArray, List.getElem_cons_zero, List.getElem_cons_succ, List.setIfInBounds_toArray, List.set_cons_zero, List.set_cons_succ]
        refine wpAnyH_take (i := 3) (v := .pointer (some ⟨g6, 0, none⟩)) rfl (by kernel_rfl) (by kernel_rfl) (by kernel_rfl) (fun _ _ _ h => h) (Or.inl ⟨by rfl, fun w hS => by go_simp⟩) hHeld ?_
        simp only [Act.put, List.getElem_toArray, List.getElem_cons_zero, List.getElem_cons_succ, List.setIfInBounds_toArray, List.set_cons_zero, List.set_cons_succ]
        refine wpAnyH_ready (rs := [4]) (by kernel_rfl) (by simp) ?_
        refine AllReadyH.cons rfl (fun KQ2 hK => ?_) AllReadyH.nil
        refine step_stc1 _ rfl _ _ _ rfl g6 0 (.bool true) (.bool false) rfl rfl rfl rfl (said_there B6) (B6.frozen 0) HB1.out ?_
        refine hK.out _ _ (hHeld.other 0 _ hne) (fun hHeld => ?_)
        clear hK KQ2
        refine wpAnyH_take (i := 5) (v := .pointer (some ⟨g6, 1, none⟩)) rfl (by kernel_rfl) (by kernel_rfl) (by kernel_rfl) (fun _ _ _ h => h) (Or.inl ⟨by rfl, fun w hS => by go_simp⟩) hHeld ?_
        simp only [Act.put, List.getElem_toArray, List.getElem_cons_zero, List.getElem_cons_succ, List.setIfInBounds_toArray, List.set_cons_zero, List.set_cons_succ]
        refine wpAnyH_ready (rs := [6]) (by kernel_rfl) (by simp) ?_
        refine AllReadyH.cons rfl (fun KQ2 hK => ?_) AllReadyH.nil
        refine step_stmid _ rfl _ _ _ rfl g6 1 (B b) rfl rfl hr1 HLb2.out.1 (B_one _) ?_
        refine hK.out _ _ (hHeld.kept (grown_setCells g6 _ 1 _) hne) (fun hHeld => ?_)
        clear hK KQ2
        refine wpAnyH_done (by kernel_rfl) ?_ _
        have hBW : Hid (Below w.heap.size w ((x8.drew.setCell ⟨g6, 0, none⟩ (.bool true)).setCells g6 1 (B b).toList)) := below_row (below_drewN KW.out.now 1) hgr HG6.out
        have K6' := hidden B6'
        clear hHeld hr1 B6' B6 B8 hgr
        generalize ((x8.drew.setCell ⟨g6, 0, none⟩ (.bool true)).setCells g6 1 (B b).toList) = y0 at *
        go_wp2_with (first
          | ((with_reducible refine at_ldd 36 6 ?_); refine wpList_lds _ rfl _ _ rfl g6 _ _ rfl K6'.out HUS.out HS1.out.1 ?_)
          | ((with_reducible refine at_st 6 ?_); refine wpList_sto _ rfl _ _ _ rfl g6 _ (sdP true b).toArray rfl rfl K6'.out HS1.out.1 rfl (said_one _ _) ?_; intro yz Bz rz))
        exact bodyPost_ret (v := .tuple #[.agg (sdP true b).toArray, .int .i64 0]) (results_agg_tmp rfl _ _ g6 _ _ rfl rfl Bz HUS.out HS1.out.1) rfl ⟨rfl, below_row hBW.out rz HG6.out⟩
      · have hO' : vfO key k a = false := by simpa using hO
        have hrB : rdB root key zs k a b c d = false := by simp [rdB, hO']
        have hrV : rdV root key zs k a b c d = z32 := by rw [rdV, if_neg (by rw [hrB]; simp)]
        rw [hO'] at hLe
        rw [hrE, hrB, hrV]
        have HDe := hidden hDe
        have HAc := hidden hAc
        have HLe := hidden hLe
        clear hDe hAc hLe hll hl hn hN hus hup hL hroot hkey hrE hrB hrV HE ho hb hg
        generalize dpH zs = HH at *
        obtain ⟨n, hnn⟩ : ∃ n, n = HH.length := ⟨_, rfl⟩
        rw [← hnn] at HDe
        clear hnn
        generalize nd k a b c d = N at *
        go_enter Tryz.func6, Tryz.ntmps6
        go_wp2_with (first
          | ((with_reducible refine at_bxd 3 ?_); refine wpList_bx _ rfl _ _ rfl _ rfl ?_; intro x1 g3 hg1 hl1 bq1 q1; replace KV := hidden (KV.out.step q1); replace KW := hidden (KW.out.step q1); replace KL := hidden (KL.out.step q1); have K3 := hidden bq1.kp; clear hg1 hl1 bq1 q1)
          | ((with_reducible refine at_bxd 4 ?_); refine wpList_bx _ rfl _ _ rfl _ rfl ?_; intro x2 g4 hg2 hl2 bq2 q2; replace KV := hidden (KV.out.step q2); replace KW := hidden (KW.out.step q2); replace KL := hidden (KL.out.step q2); replace K3 := hidden (K3.out.step q2); have K4 := hidden bq2.kp; clear hg2 hl2 bq2 q2)
          | ((with_reducible refine at_ald 6 ?_); refine wpList_al _ rfl _ rfl _ zero_said ?_; intro x3 g6 hg6 hl6 B6 q3; have HG6 : Hid (w.heap.size ≤ g6) := Nat.le_trans KW.out.now.size hg6; replace KV := hidden (KV.out.step q3); replace KW := hidden (KW.out.step q3); replace KL := hidden (KL.out.step q3); replace K3 := hidden (K3.out.step q3); replace K4 := hidden (K4.out.step q3); have K6 := hidden B6.kp; clear hg6 hl6 B6 q3)
          | ((with_reducible refine at_ald 8 ?_); refine wpList_al _ rfl _ rfl _ zero_proof ?_; intro x5 g8 hg8 hl5 bq5 q5; have HNE : Hid (g8 ≠ g6) := (by have h1 := K6.out.now.lt; show _ ≠ _; omega); clear hl5)
          | ((with_reducible refine at_st 8 ?_); refine wpList_sto _ rfl _ _ _ rfl g8 _ ((encR (.slice qa n qc) N).toArray) rfl rfl bq5 (HSP.out _).1 (HSP.out _).2 (encR_one _ _ _ _) ?_; intro x6 by6 r6; have q6 := below_row q5 r6 hg8; replace KV := hidden (KV.out.step q6); replace KW := hidden (KW.out.step q6); replace KL := hidden (KL.out.step q6); replace K3 := hidden (K3.out.step q6); replace K4 := hidden (K4.out.step q6); replace K6 := hidden (K6.out.step q6); replace KQ := hidden (KQ.out.step q6); have K8 := hidden by6.kp; clear q6 q5 r6 by6 bq5 hg8)
          | ((with_reducible refine at_ldd 20 3 ?_); refine wpList_ld _ rfl _ _ rfl g3 _ rfl K3.out.now _ _ Tryz.underlying25 HSr.out.1 ?_)
          | ((with_reducible refine at_ldd 21 4 ?_); refine wpList_ld _ rfl _ _ rfl g4 _ rfl K4.out.now _ _ Tryz.underlying24 HSk.out ?_)
          | ((with_reducible refine at_ldd 22 8 ?_); refine wpList_lds _ rfl _ _ rfl g8 _ _ rfl K8.out.now HUP.out (HSP.out _).1 ?_)
          | ((with_reducible refine at_ldd 27 4 ?_); refine wpList_ld _ rfl _ _ rfl g4 _ rfl K4.out.now _ _ Tryz.underlying24 HSk.out ?_)
          | ((with_reducible refine at_ldd 29 28 ?_); refine wpList_lde _ rfl _ rfl g8 _ _ N rfl K8.out.now HNl.out ?_)
          | ((with_reducible refine at_ldd 36 6 ?_); refine wpList_lds _ rfl _ _ rfl g6 _ _ rfl K6.out.now HUS.out HS0.out.1 ?_)
          | ((with_reducible refine at_st 6 ?_); refine wpList_sto _ rfl _ _ _ rfl g6 _ (sdP false z32).toArray rfl rfl K6.out.now HS0.out.1 rfl (said_one _ _) ?_; intro yz Bz rz)
          | (go_at_call 20; refine (HLe.out _).mono ?_; rintro e x8 ⟨rfl, q8⟩; replace KV := hidden (KV.out.step q8); replace KW := hidden (KW.out.step q8); replace KL := hidden (KL.out.step q8); replace K3 := hidden (K3.out.step q8); replace K4 := hidden (K4.out.step q8); replace K6 := hidden (K6.out.step q8); replace KQ := hidden (KQ.out.step q8); replace K8 := hidden (K8.out.step q8); have mk_fverifyisLeafOf_1 : Hid True := trivial; clear q8)
          | (go_at_call 19; refine (HAc.out _ _ KQ.out.now KL.out.now).mono ?_; rintro e x7 ⟨rfl, q7⟩; replace KV := hidden (KV.out.step q7); replace KW := hidden (KW.out.step q7); replace KL := hidden (KL.out.step q7); replace K3 := hidden (K3.out.step q7); replace K4 := hidden (K4.out.step q7); replace K6 := hidden (K6.out.step q7); replace KQ := hidden (KQ.out.step q7); replace K8 := hidden (K8.out.step q7); have mk_fverifyaccepted_1 : Hid True := trivial; clear q7)
          | (go_at_call 18; refine (HDe.out _ KV.out.now KL.out.now).mono ?_; rintro e x4 ⟨qa, qc, rfl, hq, q4⟩; replace KV := hidden (KV.out.step q4); replace KW := hidden (KW.out.step q4); replace KL := hidden (KL.out.step q4); replace K3 := hidden (K3.out.step q4); replace K4 := hidden (K4.out.step q4); replace K6 := hidden (K6.out.step q4); have KQ := hidden hq.kp; clear hq; have mk_fpackDecode_1 : Hid True := trivial; clear q4))
        exact bodyPost_ret (v := .tuple #[.agg (sdP false z32).toArray, .int .i64 0]) (results_agg_tmp rfl _ _ g6 _ _ rfl rfl Bz HUS.out HS0.out.1) rfl ⟨rfl, below_row KW.out.now rz HG6.out⟩
    · have hA' : vfA root key (dpH zs) k a b c d = false := by simpa using hA
      have hrE : rdE root key zs k a b c d = 11 := by rw [rdE, if_pos ho, if_neg hA]
      have hrB : rdB root key zs k a b c d = false := by simp [rdB, rdA, hA']
      have hrV : rdV root key zs k a b c d = z32 := by rw [rdV, if_neg (by rw [hrB]; simp)]
      rw [hA'] at hAc
      rw [hrE, hrB, hrV]
      have HDe := hidden hDe
      have HAc := hidden hAc
      have HLe := hidden hLe
      clear hDe hAc hLe hll hl hn hN hus hup hL hroot hkey hrE hrB hrV HE ho hb hg
      generalize dpH zs = HH at *
      obtain ⟨n, hnn⟩ : ∃ n, n = HH.length := ⟨_, rfl⟩
      rw [← hnn] at HDe
      clear hnn
      generalize nd k a b c d = N at *
      go_enter Tryz.func6, Tryz.ntmps6
      go_wp2_with (first
        | ((with_reducible refine at_bxd 3 ?_); refine wpList_bx _ rfl _ _ rfl _ rfl ?_; intro x1 g3 hg1 hl1 bq1 q1; replace KV := hidden (KV.out.step q1); replace KW := hidden (KW.out.step q1); replace KL := hidden (KL.out.step q1); have K3 := hidden bq1.kp; clear hg1 hl1 bq1 q1)
        | ((with_reducible refine at_bxd 4 ?_); refine wpList_bx _ rfl _ _ rfl _ rfl ?_; intro x2 g4 hg2 hl2 bq2 q2; replace KV := hidden (KV.out.step q2); replace KW := hidden (KW.out.step q2); replace KL := hidden (KL.out.step q2); replace K3 := hidden (K3.out.step q2); have K4 := hidden bq2.kp; clear hg2 hl2 bq2 q2)
        | ((with_reducible refine at_ald 6 ?_); refine wpList_al _ rfl _ rfl _ zero_said ?_; intro x3 g6 hg6 hl6 B6 q3; have HG6 : Hid (w.heap.size ≤ g6) := Nat.le_trans KW.out.now.size hg6; replace KV := hidden (KV.out.step q3); replace KW := hidden (KW.out.step q3); replace KL := hidden (KL.out.step q3); replace K3 := hidden (K3.out.step q3); replace K4 := hidden (K4.out.step q3); have K6 := hidden B6.kp; clear hg6 hl6 B6 q3)
        | ((with_reducible refine at_ald 8 ?_); refine wpList_al _ rfl _ rfl _ zero_proof ?_; intro x5 g8 hg8 hl5 bq5 q5; have HNE : Hid (g8 ≠ g6) := (by have h1 := K6.out.now.lt; show _ ≠ _; omega); clear hl5)
        | ((with_reducible refine at_st 8 ?_); refine wpList_sto _ rfl _ _ _ rfl g8 _ ((encR (.slice qa n qc) N).toArray) rfl rfl bq5 (HSP.out _).1 (HSP.out _).2 (encR_one _ _ _ _) ?_; intro x6 by6 r6; have q6 := below_row q5 r6 hg8; replace KV := hidden (KV.out.step q6); replace KW := hidden (KW.out.step q6); replace KL := hidden (KL.out.step q6); replace K3 := hidden (K3.out.step q6); replace K4 := hidden (K4.out.step q6); replace K6 := hidden (K6.out.step q6); replace KQ := hidden (KQ.out.step q6); have K8 := hidden by6.kp; clear q6 q5 r6 by6 bq5 hg8)
        | ((with_reducible refine at_ldd 20 3 ?_); refine wpList_ld _ rfl _ _ rfl g3 _ rfl K3.out.now _ _ Tryz.underlying25 HSr.out.1 ?_)
        | ((with_reducible refine at_ldd 21 4 ?_); refine wpList_ld _ rfl _ _ rfl g4 _ rfl K4.out.now _ _ Tryz.underlying24 HSk.out ?_)
        | ((with_reducible refine at_ldd 22 8 ?_); refine wpList_lds _ rfl _ _ rfl g8 _ _ rfl K8.out.now HUP.out (HSP.out _).1 ?_)
        | ((with_reducible refine at_ldd 25 6 ?_); refine wpList_lds _ rfl _ _ rfl g6 _ _ rfl K6.out.now HUS.out HS0.out.1 ?_)
        | ((with_reducible refine at_st 6 ?_); refine wpList_sto _ rfl _ _ _ rfl g6 _ (sdP false z32).toArray rfl rfl K6.out.now HS0.out.1 rfl (said_one _ _) ?_; intro yz Bz rz)
        | (go_at_call 19; refine (HAc.out _ _ KQ.out.now KL.out.now).mono ?_; rintro e x7 ⟨rfl, q7⟩; replace KV := hidden (KV.out.step q7); replace KW := hidden (KW.out.step q7); replace KL := hidden (KL.out.step q7); replace K3 := hidden (K3.out.step q7); replace K4 := hidden (K4.out.step q7); replace K6 := hidden (K6.out.step q7); replace KQ := hidden (KQ.out.step q7); replace K8 := hidden (K8.out.step q7); have mk_fverifyaccepted_1 : Hid True := trivial; clear q7)
        | (go_at_call 18; refine (HDe.out _ KV.out.now KL.out.now).mono ?_; rintro e x4 ⟨qa, qc, rfl, hq, q4⟩; replace KV := hidden (KV.out.step q4); replace KW := hidden (KW.out.step q4); replace KL := hidden (KL.out.step q4); replace K3 := hidden (K3.out.step q4); replace K4 := hidden (K4.out.step q4); replace K6 := hidden (K6.out.step q4); have KQ := hidden hq.kp; clear hq; have mk_fpackDecode_1 : Hid True := trivial; clear q4))
      exact bodyPost_ret (v := .tuple #[.agg (sdP false z32).toArray, .int .i64 11]) (results_agg_tmp rfl _ _ g6 _ _ rfl rfl Bz HUS.out HS0.out.1) rfl ⟨rfl, below_row KW.out.now rz HG6.out⟩
  · have HE : dpE zs = 10 := by rw [dpE, if_neg ho]
    have hrE : rdE root key zs k a b c d = 10 := by rw [rdE, if_neg ho]
    have hrB : rdB root key zs k a b c d = false := by simp [rdB, rdA, ho]
    have hrV : rdV root key zs k a b c d = z32 := by rw [rdV, if_neg (by rw [hrB]; simp)]
    rw [HE] at hDe
    rw [hrE, hrB, hrV]
    have HDe := hidden hDe
    clear hDe hll hl hn hN hus hup hL hroot hkey hrE hrB hrV HE ho hb
    generalize dpH zs = HH at *
    obtain ⟨n, hnn⟩ : ∃ n, n = HH.length := ⟨_, rfl⟩
    rw [← hnn] at HDe
    clear hnn
    generalize nd k a b c d = N at *
    go_enter Tryz.func6, Tryz.ntmps6
    go_wp2_with (first
      | ((with_reducible refine at_bxd 3 ?_); refine wpList_bx _ rfl _ _ rfl _ rfl ?_; intro x1 g3 hg1 hl1 bq1 q1; replace KV := hidden (KV.out.step q1); replace KW := hidden (KW.out.step q1); replace KL := hidden (KL.out.step q1); have K3 := hidden bq1.kp; clear hg1 hl1 bq1 q1)
      | ((with_reducible refine at_bxd 4 ?_); refine wpList_bx _ rfl _ _ rfl _ rfl ?_; intro x2 g4 hg2 hl2 bq2 q2; replace KV := hidden (KV.out.step q2); replace KW := hidden (KW.out.step q2); replace KL := hidden (KL.out.step q2); replace K3 := hidden (K3.out.step q2); have K4 := hidden bq2.kp; clear hg2 hl2 bq2 q2)
      | ((with_reducible refine at_ald 6 ?_); refine wpList_al _ rfl _ rfl _ zero_said ?_; intro x3 g6 hg6 hl6 B6 q3; have HG6 : Hid (w.heap.size ≤ g6) := Nat.le_trans KW.out.now.size hg6; replace KV := hidden (KV.out.step q3); replace KW := hidden (KW.out.step q3); replace KL := hidden (KL.out.step q3); replace K3 := hidden (K3.out.step q3); replace K4 := hidden (K4.out.step q3); have K6 := hidden B6.kp; clear hg6 hl6 B6 q3)
      | ((with_reducible refine at_ald 8 ?_); refine wpList_al _ rfl _ rfl _ zero_proof ?_; intro x5 g8 hg8 hl5 bq5 q5; have HNE : Hid (g8 ≠ g6) := (by have h1 := K6.out.now.lt; show _ ≠ _; omega); clear hl5)
      | ((with_reducible refine at_st 8 ?_); refine wpList_sto _ rfl _ _ _ rfl g8 _ ((encR (.slice qa n qc) N).toArray) rfl rfl bq5 (HSP.out _).1 (HSP.out _).2 (encR_one _ _ _ _) ?_; intro x6 by6 r6; have q6 := below_row q5 r6 hg8; replace KV := hidden (KV.out.step q6); replace KW := hidden (KW.out.step q6); replace KL := hidden (KL.out.step q6); replace K3 := hidden (K3.out.step q6); replace K4 := hidden (K4.out.step q6); replace K6 := hidden (K6.out.step q6); replace KQ := hidden (KQ.out.step q6); have K8 := hidden by6.kp; clear q6 q5 r6 by6 bq5 hg8)
      | ((with_reducible refine at_ldd 17 6 ?_); refine wpList_lds _ rfl _ _ rfl g6 _ _ rfl K6.out.now HUS.out HS0.out.1 ?_)
      | ((with_reducible refine at_st 6 ?_); refine wpList_sto _ rfl _ _ _ rfl g6 _ (sdP false z32).toArray rfl rfl K6.out.now HS0.out.1 rfl (said_one _ _) ?_; intro yz Bz rz)
      | (go_at_call 18; refine (HDe.out _ KV.out.now KL.out.now).mono ?_; rintro e x4 ⟨qa, qc, rfl, hq, q4⟩; replace KV := hidden (KV.out.step q4); replace KW := hidden (KW.out.step q4); replace KL := hidden (KL.out.step q4); replace K3 := hidden (K3.out.step q4); replace K4 := hidden (K4.out.step q4); replace K6 := hidden (K6.out.step q4); have KQ := hidden hq.kp; clear hq; have mk_fpackDecode_1 : Hid True := trivial; clear q4))
    exact bodyPost_ret (v := .tuple #[.agg (sdP false z32).toArray, .int .i64 10]) (results_agg_tmp rfl _ _ g6 _ _ rfl rfl Bz HUS.out HS0.out.1) rfl ⟨rfl, below_row KW.out.now rz HG6.out⟩

end Go.Proofs.YtpihigcnoifcfaaGreatDoor

/- verify.Top, Present and Absent, as contracts. -/
namespace Go.Proofs.YtpihigcnoifcfaaGreatDoor
set_option maxRecDepth 20000
open Go.RowKit

/-- Whether the bytes say that the key is there with this value; whether they say that it is absent. -/
def psB (root key ys zs : List Int) (k : Int) (a b c d : List Int) : Bool := decide (ys.length ≤ 1024) && (rdB root key zs k a b c d && decide (rdV root key zs k a b c d = vaD ys))
def abB (root key zs : List Int) (k : Int) (a b c d : List Int) : Bool := decide (rdE root key zs k a b c d = 0) && !rdB root key zs k a b c d
theorem rdB_ok {root key zs : List Int} {k : Int} {a b c d : List Int} (h : rdE root key zs k a b c d ≠ 0) : rdB root key zs k a b c d = false := by
  unfold rdE at h
  unfold rdB rdA
  split at h
  · split at h
    · exact absurd rfl h
    · rename_i ho hA
      simp [ho, hA]
  · rename_i ho
    simp [ho]
theorem vfT_length (key zs : List Int) (k : Int) (a b c d : List Int) : (vfT key zs k a b c d).length = 32 := by
  unfold vfT
  split
  · exact upH_l _ _ _ _ _ _ _
  · rfl

set_option maxHeartbeats 4000000 in
theorem vabsent_any (root key : List Int) (v : Value) (zs : List Int) (k : Int) (a b c d : List Int) (w : World) (hroot : Key root) (hkey : Key key) (h : Reads w v zs) (hl : zs.length ≤ 140737488355328) (hL : Laid w) (hn : dpN zs = nd k a b c d) (hN : Nd k a b c d) :
    Calls Tryz.prog 12 #[.agg (B root), .agg (B key), v] w fun e w' => e = .returned (.bool (abB root key zs k a b c d)) ∧ Below w.heap.size w w' := by
  have KV := hidden h.kp
  have KW := hidden (below_kp w)
  have KL := hidden hL.kp
  have HRe : Hid (∀ w', Reads w' v zs → Laid w' → Calls Tryz.prog 6 #[.agg (B root), .agg (B key), v] w' fun e w'' => e = .returned (.tuple #[.agg (sdP (rdB root key zs k a b c d) (rdV root key zs k a b c d)).toArray, .int .i64 (rdE root key zs k a b c d)]) ∧ Below w'.heap.size w' w'') := fun w' h1 h2 => vread_any root key v zs k a b c d w' hroot hkey h1 hl h2 hn hN
  have HSr := hidden (hash_sz root hroot.1)
  have HSk : Hid ((Tryz.prog.info? 24).map (·.size) = some (B key).size) := by show _ = _; rw [B_size, hkey.1]; exact sz_path
  have HSD := hidden (said_sz (rdB root key zs k a b c d) (rdV root key zs k a b c d) (rdV_length root key zs k a b c d hN.lb))
  have HOn := hidden (said_one (rdB root key zs k a b c d) (rdV root key zs k a b c d))
  have HTh : Hid (∀ w g t, Blk w g t (sdP (rdB root key zs k a b c d) (rdV root key zs k a b c d)).toArray → w.cell? ⟨g, 0, none⟩ = some (.bool (rdB root key zs k a b c d))) := fun w g t h => said_there h
  obtain ⟨va, vc, rfl, _⟩ := h
  obtain ⟨l, hll⟩ : ∃ l, l = zs.length := ⟨_, rfl⟩
  rw [← hll] at KV HRe ⊢
  unfold abB
  generalize (sdP (rdB root key zs k a b c d) (rdV root key zs k a b c d)).toArray = SD at *
  generalize rdB root key zs k a b c d = T at *
  generalize rdE root key zs k a b c d = E at *
  clear hll hl hn hN hL hroot hkey
  by_cases hE : E = 0
  · subst hE
    have zE : ((0 : Int) == 0) = true := rfl
    rw [decide_eq_true rfl, Bool.true_and]
    go_enter Tryz.func12, Tryz.ntmps12
    go_wp2_with (first
      | ((with_reducible refine at_bxd 3 ?_); refine wpList_bx _ rfl _ _ rfl _ rfl ?_; intro x1 g3 hg1 hl1 bq1 q1; replace KV := hidden (KV.out.step q1); replace KW := hidden (KW.out.step q1); replace KL := hidden (KL.out.step q1); have K3 := hidden bq1.kp; clear hg1 hl1 bq1 q1)
      | ((with_reducible refine at_bxd 4 ?_); refine wpList_bx _ rfl _ _ rfl _ rfl ?_; intro x2 g4 hg2 hl2 bq2 q2; replace KV := hidden (KV.out.step q2); replace KW := hidden (KW.out.step q2); replace KL := hidden (KL.out.step q2); replace K3 := hidden (K3.out.step q2); have K4 := hidden bq2.kp; clear hg2 hl2 bq2 q2)
      | ((with_reducible refine at_ldd 10 3 ?_); refine wpList_ld _ rfl _ _ rfl g3 _ rfl K3.out.now _ _ Tryz.underlying25 HSr.out.1 ?_)
      | ((with_reducible refine at_ldd 11 4 ?_); refine wpList_ld _ rfl _ _ rfl g4 _ rfl K4.out.now _ _ Tryz.underlying24 HSk.out ?_)
      | ((with_reducible refine at_ald 7 ?_); refine wpList_al _ rfl _ rfl _ zero_said ?_; intro x4 g7 hg7 hl4 bq4 q4; clear hl4)
      | ((with_reducible refine at_st 7 ?_); refine wpList_sto _ rfl _ _ _ rfl g7 _ (SD) rfl rfl bq4 HSD.out.1 HSD.out.2 HOn.out ?_; intro x5 by5 r5; have q5 := below_row q4 r5 hg7; replace KV := hidden (KV.out.step q5); replace KW := hidden (KW.out.step q5); replace KL := hidden (KL.out.step q5); replace K3 := hidden (K3.out.step q5); replace K4 := hidden (K4.out.step q5); have K7 := hidden by5.kp; have c7 := HTh.out _ _ _ K7.out.now; clear q5 q4 r5 by5 bq4 hg7)
      | (go_at_call 6; refine (HRe.out _ KV.out.now KL.out.now).mono ?_; rintro e x3 ⟨rfl, q3⟩; replace KV := hidden (KV.out.step q3); replace KW := hidden (KW.out.step q3); replace KL := hidden (KL.out.step q3); replace K3 := hidden (K3.out.step q3); replace K4 := hidden (K4.out.step q3); have mk_fverifyRead_1 : Hid True := trivial; clear q3))
    go_ret
    exact ⟨rfl, KW.out.now⟩
  · have zE : (E == 0) = false := by simp [hE]
    rw [decide_eq_false hE, Bool.false_and]
    clear hE
    go_enter Tryz.func12, Tryz.ntmps12
    go_wp2_with (first
      | ((with_reducible refine at_bxd 3 ?_); refine wpList_bx _ rfl _ _ rfl _ rfl ?_; intro x1 g3 hg1 hl1 bq1 q1; replace KV := hidden (KV.out.step q1); replace KW := hidden (KW.out.step q1); replace KL := hidden (KL.out.step q1); have K3 := hidden bq1.kp; clear hg1 hl1 bq1 q1)
      | ((with_reducible refine at_bxd 4 ?_); refine wpList_bx _ rfl _ _ rfl _ rfl ?_; intro x2 g4 hg2 hl2 bq2 q2; replace KV := hidden (KV.out.step q2); replace KW := hidden (KW.out.step q2); replace KL := hidden (KL.out.step q2); replace K3 := hidden (K3.out.step q2); have K4 := hidden bq2.kp; clear hg2 hl2 bq2 q2)
      | ((with_reducible refine at_ldd 10 3 ?_); refine wpList_ld _ rfl _ _ rfl g3 _ rfl K3.out.now _ _ Tryz.underlying25 HSr.out.1 ?_)
      | ((with_reducible refine at_ldd 11 4 ?_); refine wpList_ld _ rfl _ _ rfl g4 _ rfl K4.out.now _ _ Tryz.underlying24 HSk.out ?_)
      | ((with_reducible refine at_ald 7 ?_); refine wpList_al _ rfl _ rfl _ zero_said ?_; intro x4 g7 hg7 hl4 bq4 q4; clear hl4)
      | ((with_reducible refine at_st 7 ?_); refine wpList_sto _ rfl _ _ _ rfl g7 _ (SD) rfl rfl bq4 HSD.out.1 HSD.out.2 HOn.out ?_; intro x5 by5 r5; have q5 := below_row q4 r5 hg7; replace KV := hidden (KV.out.step q5); replace KW := hidden (KW.out.step q5); replace KL := hidden (KL.out.step q5); replace K3 := hidden (K3.out.step q5); replace K4 := hidden (K4.out.step q5); have K7 := hidden by5.kp; have c7 := HTh.out _ _ _ K7.out.now; clear q5 q4 r5 by5 bq4 hg7)
      | (go_at_call 6; refine (HRe.out _ KV.out.now KL.out.now).mono ?_; rintro e x3 ⟨rfl, q3⟩; replace KV := hidden (KV.out.step q3); replace KW := hidden (KW.out.step q3); replace KL := hidden (KL.out.step q3); replace K3 := hidden (K3.out.step q3); replace K4 := hidden (K4.out.step q3); have mk_fverifyRead_1 : Hid True := trivial; clear q3))
    go_ret
    exact ⟨rfl, KW.out.now⟩

set_option maxHeartbeats 8000000 in
theorem vpresent_any (root key : List Int) (u v : Value) (ys zs : List Int) (k : Int) (a b c d : List Int) (w : World) (hroot : Key root) (hkey : Key key) (hu : Reads w u ys) (h : Reads w v zs) (hl : zs.length ≤ 140737488355328) (hL : Laid w) (hn : dpN zs = nd k a b c d) (hN : Nd k a b c d) :
    Calls Tryz.prog 8 #[.agg (B root), .agg (B key), u, v] w fun e w' => e = .returned (.bool (psB root key ys zs k a b c d)) ∧ Below w.heap.size w w' := by
  have KU := hidden hu.kp
  have KV := hidden h.kp
  have KW := hidden (below_kp w)
  have KL := hidden hL.kp
  have HRe : Hid (∀ w', Reads w' v zs → Laid w' → Calls Tryz.prog 6 #[.agg (B root), .agg (B key), v] w' fun e w'' => e = .returned (.tuple #[.agg (sdP (rdB root key zs k a b c d) (rdV root key zs k a b c d)).toArray, .int .i64 (rdE root key zs k a b c d)]) ∧ Below w'.heap.size w' w'') := fun w' h1 h2 => vread_any root key v zs k a b c d w' hroot hkey h1 hl h2 hn hN
  have hVa : ys.length ≤ 1024 → ∀ w', Reads w' u ys → Laid w' → Calls Tryz.prog 26 #[u] w' fun e w'' => e = .returned (.agg (B (vaD ys))) ∧ Below w'.heap.size w' w'' := fun h0 w' h1 h2 => value_any u ys w' h1 h2 (by omega)
  have HSr := hidden (hash_sz root hroot.1)
  have HSk : Hid ((Tryz.prog.info? 24).map (·.size) = some (B key).size) := by show _ = _; rw [B_size, hkey.1]; exact sz_path
  obtain ⟨fs, hus⟩ := u_said
  have HUS := hidden hus
  have hvl := rdV_length root key zs k a b c d hN.lb
  have hdl : (vaD ys).length = 32 := dig_length _
  have HSD := hidden (said_sz (rdB root key zs k a b c d) (rdV root key zs k a b c d) hvl)
  have HOn := hidden (said_one (rdB root key zs k a b c d) (rdV root key zs k a b c d))
  have HBV : Hid (Tryz.prog.built 39 [(0, .bool true), (1, .agg (B (vaD ys)))] = some (sdP true (vaD ys)).toArray) := built_said _ hdl
  have hqS : ∀ w, (Op.equalIn 10000 39 (.agg (sdP (rdB root key zs k a b c d) (rdV root key zs k a b c d)).toArray) (.agg (sdP true (vaD ys)).toArray)).run Tryz.prog w = .ok (rdB root key zs k a b c d && decide (rdV root key zs k a b c d = vaD ys)) w := fun w => by
    rw [said_eq hvl hdl w]
    cases rdB root key zs k a b c d <;> rfl
  have hE0 : rdE root key zs k a b c d ≠ 0 → rdB root key zs k a b c d = false := rdB_ok
  obtain ⟨va, vc, rfl, _⟩ := h
  obtain ⟨ua, uc, rfl, _⟩ := hu
  obtain ⟨l, hll⟩ : ∃ l, l = zs.length := ⟨_, rfl⟩
  obtain ⟨m, hmm⟩ : ∃ m, m = ys.length := ⟨_, rfl⟩
  rw [← hll] at KV HRe ⊢
  unfold psB
  rw [← hmm] at KU hVa ⊢
  generalize (sdP true (vaD ys)).toArray = SV at *
  generalize vaD ys = D at *
  generalize (sdP (rdB root key zs k a b c d) (rdV root key zs k a b c d)).toArray = SD at *
  generalize hR : (rdB root key zs k a b c d && decide (rdV root key zs k a b c d = D)) = R at *
  by_cases hm : m ≤ 1024
  · have z1 : ¬ (1024 : Int) < (m : Int) := by omega
    rw [decide_eq_true hm, Bool.true_and]
    have HVa := hidden (hVa hm)
    generalize hE : rdE root key zs k a b c d = E at *
    clear hll hl hn hN hL hroot hkey hmm hm hVa hus hvl hdl
    by_cases h0 : E = 0
    · subst h0
      have zE : ((0 : Int) == 0) = true := rfl
      clear hE hR hE0
      go_enter Tryz.func8, Tryz.ntmps8
      go_wp2_with (first
        | ((with_reducible refine at_bxd 4 ?_); refine wpList_bx _ rfl _ _ rfl _ rfl ?_; intro x1 g4 hg1 hl1 bq1 q1; replace KU := hidden (KU.out.step q1); replace KV := hidden (KV.out.step q1); replace KW := hidden (KW.out.step q1); replace KL := hidden (KL.out.step q1); have K4 := hidden bq1.kp; clear hg1 hl1 bq1 q1)
        | ((with_reducible refine at_bxd 5 ?_); refine wpList_bx _ rfl _ _ rfl _ rfl ?_; intro x2 g5 hg2 hl2 bq2 q2; replace KU := hidden (KU.out.step q2); replace KV := hidden (KV.out.step q2); replace KW := hidden (KW.out.step q2); replace KL := hidden (KL.out.step q2); replace K4 := hidden (K4.out.step q2); have K5 := hidden bq2.kp; clear hg2 hl2 bq2 q2)
        | ((with_reducible refine at_ldd 15 4 ?_); refine wpList_ld _ rfl _ _ rfl g4 _ rfl K4.out.now _ _ Tryz.underlying25 HSr.out.1 ?_)
        | ((with_reducible refine at_ldd 16 5 ?_); refine wpList_ld _ rfl _ _ rfl g5 _ rfl K5.out.now _ _ Tryz.underlying24 HSk.out ?_)
        | ((with_reducible refine at_ald 9 ?_); refine wpList_al _ rfl _ rfl _ zero_said ?_; intro x4 g9 hg9 hl4 bq4 q4; clear hl4)
        | ((with_reducible refine at_st 9 ?_); refine wpList_sto _ rfl _ _ _ rfl g9 _ (SD) rfl rfl bq4 HSD.out.1 HSD.out.2 HOn.out ?_; intro x5 by5 r5; have q5 := below_row q4 r5 hg9; replace KU := hidden (KU.out.step q5); replace KV := hidden (KV.out.step q5); replace KW := hidden (KW.out.step q5); replace KL := hidden (KL.out.step q5); replace K4 := hidden (K4.out.step q5); replace K5 := hidden (K5.out.step q5); have K9 := hidden by5.kp; clear q5 q4 r5 by5 bq4 hg9)
        | (go_at_call 6; refine (HRe.out _ KV.out.now KL.out.now).mono ?_; rintro e x3 ⟨rfl, q3⟩; replace KU := hidden (KU.out.step q3); replace KV := hidden (KV.out.step q3); replace KW := hidden (KW.out.step q3); replace KL := hidden (KL.out.step q3); replace K4 := hidden (K4.out.step q3); replace K5 := hidden (K5.out.step q3); have mk_fverifyRead_1 : Hid True := trivial; clear q3))
      refine wp_region_held_drew (S := fun w' => Below x5.heap.size x5 w') (by kernel_rfl) (below_drewN (Below.refl _ _) 1) (fun hHeld => ?_)
      refine wpAnyH_take (i := 0) (v := .int .i64 0) rfl (by kernel_rfl) (by kernel_rfl) (by kernel_rfl) (fun _ _ _ h => h) (Or.inl ⟨by rfl, fun w hS => by go_simp⟩) hHeld ?_
      simp only [Act.put, List.getElem_toArray, List.getElem_cons_zero, List.setIfInBounds_toArray, List.set_cons_zero, List.set_cons_succ]
      refine wpAnyH_take (i := 1) (v := .bool true) rfl (by kernel_rfl) (by kernel_rfl) (by kernel_rfl) (fun _ _ _ h => h) (Or.inl ⟨by rfl, fun w hS => by go_simp⟩) hHeld ?_
      simp only [Act.put, List.getElem_toArray, List.getElem_cons_zero, List.getElem_cons_succ, List.setIfInBounds_toArray, List.set_cons_zero, List.set_cons_succ]
      refine wpAnyH_take (i := 2) (v := .bool true) rfl (by kernel_rfl) (by kernel_rfl) (by kernel_rfl) (fun _ _ _ h => h) (Or.inl ⟨by rfl, fun w hS => by go_simp⟩) hHeld ?_
      simp only [Act.put, List.getElem_toArray, List.getElem_cons_zero, List.getElem_cons_succ, List.setIfInBounds_toArray, List.set_cons_zero, List.set_cons_succ]
      refine wpAnyH_take (i := 3) (v := .agg SD) rfl (by kernel_rfl) (by kernel_rfl) (by kernel_rfl) (fun _ _ _ h => h) (yieldsIf_load_mid rfl 39 (.tmp 9) rfl g9 0 rfl SD.toList _ (fun w hS => (K9.out _ hS).range) HUS.out rfl (by rw [Array.length_toList]; exact HSD.out.1)) hHeld ?_
      simp only [Act.put, List.getElem_toArray, List.getElem_cons_zero, List.getElem_cons_succ, List.setIfInBounds_toArray, List.set_cons_zero, List.set_cons_succ]
      refine wpAnyH_take (i := 4) (v := .slice ua m uc) rfl (by kernel_rfl) (by kernel_rfl) (by kernel_rfl) (fun _ _ _ h => h) (Or.inl ⟨by rfl, fun w hS => by go_simp⟩) hHeld ?_
      simp only [Act.put, List.getElem_toArray, List.getElem_cons_zero, List.getElem_cons_succ, List.setIfInBounds_toArray, List.set_cons_zero, List.set_cons_succ]
      refine wpAnyH_ready (rs := [5]) (by kernel_rfl) (by simp) ?_
      refine AllReadyH.cons rfl (fun KQ hK => ?_) AllReadyH.nil
      go_simp
      refine (HVa.out _ (KU.out _ hHeld) (KL.out _ hHeld)).mono ?_
      rintro e y1 ⟨rfl, a1⟩
      refine hK.out _ _ (grow_trans hHeld a1) (fun hHeld => ?_)
      clear hK KQ
      refine wpAnyH_take (i := 6) (v := .agg SV) rfl (by kernel_rfl) (by kernel_rfl) (by kernel_rfl) (fun _ _ _ h => h) (Or.inl ⟨by rfl, fun w hS => exec_bd _ _ 39 _ (by rfl) _ (by rw [List.map_toArray]; exact HBV.out) w⟩) hHeld ?_
      simp only [Act.put, List.getElem_toArray, List.getElem_cons_zero, List.getElem_cons_succ, List.setIfInBounds_toArray, List.set_cons_zero, List.set_cons_succ]
      refine wpAnyH_take (i := 7) (v := .bool R) rfl (by kernel_rfl) (by kernel_rfl) (by kernel_rfl) (fun _ _ _ h => h) (Or.inl ⟨by rfl, fun w hS => by go_simp⟩) hHeld ?_
      simp only [Act.put, List.getElem_toArray, List.getElem_cons_zero, List.getElem_cons_succ, List.setIfInBounds_toArray, List.set_cons_zero, List.set_cons_succ]
      refine wpAnyH_take (i := 8) (v := .bool R) rfl (by kernel_rfl) (by kernel_rfl) (by kernel_rfl) (fun _ _ _ h => h) (Or.inl ⟨by rfl, fun w hS => by go_simp⟩) hHeld ?_
      simp only [Act.put, List.getElem_toArray, List.getElem_cons_zero, List.getElem_cons_succ, List.setIfInBounds_toArray, List.set_cons_zero, List.set_cons_succ]
      refine wpAnyH_take (i := 9) (v := .bool R) rfl (by kernel_rfl) (by kernel_rfl) (by kernel_rfl) (fun _ _ _ h => h) (Or.inl ⟨by rfl, fun w hS => by go_simp⟩) hHeld ?_
      simp only [Act.put, List.getElem_toArray, List.getElem_cons_zero, List.getElem_cons_succ, List.setIfInBounds_toArray, List.set_cons_zero, List.set_cons_succ]
      refine wpAnyH_done (by kernel_rfl) ?_ _
      go_wp2
      go_ret
      exact ⟨rfl, (KW.out.step hHeld).now⟩
    · have hR0 : R = false := by rw [← hR, hE0 h0, Bool.false_and]
      have zE : (E == 0) = false := by simp [h0]
      subst hR0
      clear hE hR hE0 h0
      go_enter Tryz.func8, Tryz.ntmps8
      go_wp2_with (first
        | ((with_reducible refine at_bxd 4 ?_); refine wpList_bx _ rfl _ _ rfl _ rfl ?_; intro x1 g4 hg1 hl1 bq1 q1; replace KU := hidden (KU.out.step q1); replace KV := hidden (KV.out.step q1); replace KW := hidden (KW.out.step q1); replace KL := hidden (KL.out.step q1); have K4 := hidden bq1.kp; clear hg1 hl1 bq1 q1)
        | ((with_reducible refine at_bxd 5 ?_); refine wpList_bx _ rfl _ _ rfl _ rfl ?_; intro x2 g5 hg2 hl2 bq2 q2; replace KU := hidden (KU.out.step q2); replace KV := hidden (KV.out.step q2); replace KW := hidden (KW.out.step q2); replace KL := hidden (KL.out.step q2); replace K4 := hidden (K4.out.step q2); have K5 := hidden bq2.kp; clear hg2 hl2 bq2 q2)
        | ((with_reducible refine at_ldd 15 4 ?_); refine wpList_ld _ rfl _ _ rfl g4 _ rfl K4.out.now _ _ Tryz.underlying25 HSr.out.1 ?_)
        | ((with_reducible refine at_ldd 16 5 ?_); refine wpList_ld _ rfl _ _ rfl g5 _ rfl K5.out.now _ _ Tryz.underlying24 HSk.out ?_)
        | ((with_reducible refine at_ald 9 ?_); refine wpList_al _ rfl _ rfl _ zero_said ?_; intro x4 g9 hg9 hl4 bq4 q4; clear hl4)
        | ((with_reducible refine at_st 9 ?_); refine wpList_sto _ rfl _ _ _ rfl g9 _ (SD) rfl rfl bq4 HSD.out.1 HSD.out.2 HOn.out ?_; intro x5 by5 r5; have q5 := below_row q4 r5 hg9; replace KU := hidden (KU.out.step q5); replace KV := hidden (KV.out.step q5); replace KW := hidden (KW.out.step q5); replace KL := hidden (KL.out.step q5); replace K4 := hidden (K4.out.step q5); replace K5 := hidden (K5.out.step q5); have K9 := hidden by5.kp; clear q5 q4 r5 by5 bq4 hg9)
        | (go_at_call 6; refine (HRe.out _ KV.out.now KL.out.now).mono ?_; rintro e x3 ⟨rfl, q3⟩; replace KU := hidden (KU.out.step q3); replace KV := hidden (KV.out.step q3); replace KW := hidden (KW.out.step q3); replace KL := hidden (KL.out.step q3); replace K4 := hidden (K4.out.step q3); replace K5 := hidden (K5.out.step q3); have mk_fverifyRead_1 : Hid True := trivial; clear q3))
      refine wp_region_held_drew (S := fun w' => Below x5.heap.size x5 w') (by kernel_rfl) (below_drewN (Below.refl _ _) 1) (fun hHeld => ?_)
      refine wpAnyH_take (i := 0) (v := .int .i64 E) rfl (by kernel_rfl) (by kernel_rfl) (by kernel_rfl) (fun _ _ _ h => h) (Or.inl ⟨by rfl, fun w hS => by go_simp⟩) hHeld ?_
      simp only [Act.put, List.getElem_toArray, List.getElem_cons_zero, List.setIfInBounds_toArray, List.set_cons_zero, List.set_cons_succ]
      refine wpAnyH_take (i := 1) (v := .bool false) rfl (by kernel_rfl) (by kernel_rfl) (by kernel_rfl) (fun _ _ _ h => h) (Or.inl ⟨by rfl, fun w hS => by go_simp⟩) hHeld ?_
      simp only [Act.put, List.getElem_toArray, List.getElem_cons_zero, List.getElem_cons_succ, List.setIfInBounds_toArray, List.set_cons_zero, List.set_cons_succ]
      refine wpAnyH_take (i := 2) (v := .bool false) rfl (by kernel_rfl) (by kernel_rfl) (by kernel_rfl) (fun _ _ _ h => h) (Or.inl ⟨by rfl, fun w hS => by go_simp⟩) hHeld ?_
      simp only [Act.put, List.getElem_toArray, List.getElem_cons_zero, List.getElem_cons_succ, List.setIfInBounds_toArray, List.set_cons_zero, List.set_cons_succ]
      refine wpAnyH_take (i := 3) (v := undef) rfl (by kernel_rfl) (by kernel_rfl) (by kernel_rfl) (fun _ _ _ h => h) (Or.inr ⟨by rfl, rfl⟩) hHeld ?_
      simp only [Act.put, List.getElem_toArray, List.getElem_cons_zero, List.getElem_cons_succ, List.setIfInBounds_toArray, List.set_cons_zero, List.set_cons_succ]
      refine wpAnyH_take (i := 4) (v := undef) rfl (by kernel_rfl) (by kernel_rfl) (by kernel_rfl) (fun _ _ _ h => h) (Or.inr ⟨by rfl, rfl⟩) hHeld ?_
      simp only [Act.put, List.getElem_toArray, List.getElem_cons_zero, List.getElem_cons_succ, List.setIfInBounds_toArray, List.set_cons_zero, List.set_cons_succ]
      refine wpAnyH_take (i := 5) (v := undef) rfl (by kernel_rfl) (by kernel_rfl) (by kernel_rfl) (fun _ _ _ h => h) (Or.inr ⟨by rfl, rfl⟩) hHeld ?_
      simp only [Act.put, List.getElem_toArray, List.getElem_cons_zero, List.getElem_cons_succ, List.setIfInBounds_toArray, List.set_cons_zero, List.set_cons_succ]
      refine wpAnyH_take (i := 6) (v := undef) rfl (by kernel_rfl) (by kernel_rfl) (by kernel_rfl) (fun _ _ _ h => h) (Or.inr ⟨by rfl, rfl⟩) hHeld ?_
      simp only [Act.put, List.getElem_toArray, List.getElem_cons_zero, List.getElem_cons_succ, List.setIfInBounds_toArray, List.set_cons_zero, List.set_cons_succ]
      refine wpAnyH_take (i := 7) (v := undef) rfl (by kernel_rfl) (by kernel_rfl) (by kernel_rfl) (fun _ _ _ h => h) (Or.inr ⟨by rfl, rfl⟩) hHeld ?_
      simp only [Act.put, List.getElem_toArray, List.getElem_cons_zero, List.getElem_cons_succ, List.setIfInBounds_toArray, List.set_cons_zero, List.set_cons_succ]
      refine wpAnyH_take (i := 8) (v := .bool false) rfl (by kernel_rfl) (by kernel_rfl) (by kernel_rfl) (fun _ _ _ h => h) (Or.inl ⟨by rfl, fun w hS => by go_simp⟩) hHeld ?_
      simp only [Act.put, List.getElem_toArray, List.getElem_cons_zero, List.getElem_cons_succ, List.setIfInBounds_toArray, List.set_cons_zero, List.set_cons_succ]
      refine wpAnyH_take (i := 9) (v := .bool false) rfl (by kernel_rfl) (by kernel_rfl) (by kernel_rfl) (fun _ _ _ h => h) (Or.inl ⟨by rfl, fun w hS => by go_simp⟩) hHeld ?_
      simp only [Act.put, List.getElem_toArray, List.getElem_cons_zero, List.getElem_cons_succ, List.setIfInBounds_toArray, List.set_cons_zero, List.set_cons_succ]
      refine wpAnyH_done (by kernel_rfl) ?_ _
      go_wp2
      go_ret
      exact ⟨rfl, (KW.out.step hHeld).now⟩
  · have z1 : (1024 : Int) < (m : Int) := by omega
    rw [decide_eq_false hm, Bool.false_and]
    clear hll hl hn hN hL hroot hkey hmm hm hVa hus hvl hdl hE0 hR
    go_enter Tryz.func8, Tryz.ntmps8
    go_wp2_with (first
      | ((with_reducible refine at_bxd 4 ?_); refine wpList_bx _ rfl _ _ rfl _ rfl ?_; intro w1 g4 hg4 hl4 B4 b1)
      | ((with_reducible refine at_bxd 5 ?_); refine wpList_bx _ rfl _ _ rfl _ rfl ?_; intro w2 g5 hg5 hl5 B5 b2))
    go_ret
    exact ⟨rfl, grow_trans b1 b2⟩

end Go.Proofs.YtpihigcnoifcfaaGreatDoor

/- The way down, step by step, and what a way tells; laws for a proof in a block. -/
namespace Go.Proofs.YtpihigcnoifcfaaGreatDoor
set_option maxRecDepth 20000
open Go.RowKit

/-- The end of a way. -/
def endN : List Ent → List Int
  | [e] => nd 1 e.1 (vaD e.2) z32 z32
  | _ => nd 0 z32 z32 z32 z32

/-- On the way down: the entries that are left, the sides so far. -/
structure WaySt (es : List Ent) (key : List Int) (d : Nat) (ed : List Ent) (hs : List (List Int)) : Prop where
  hd : d ≤ 256
  keys : ∀ e ∈ ed, Key e.1
  sides : hs ++ sds (256 - d) d ed key = sds 256 0 es key
  rest : rst (256 - d) d ed key = rst 256 0 es key
  len : hs.length = d
  dgs : Dgs hs
  sub : ∀ e ∈ ed, e ∈ es

theorem rt_len (n d : Nat) (es : List Ent) : (rt n d es).length = 32 ∧ Bytes (rt n d es) := by
  match n, es with
  | _, [] => rw [rt_nil]; exact ⟨dig_length _, dig_bytes _⟩
  | _, [x] => rw [rt_one]; exact ⟨dig_length _, dig_bytes _⟩
  | 0, _ :: _ :: _ => exact ⟨dig_length _, dig_bytes _⟩
  | n + 1, a :: b :: l => rw [rt_more n d _ (by simp)]; exact ⟨dig_length _, dig_bytes _⟩

theorem WaySt.start {es : List Ent} (key : List Int) (h : ∀ e ∈ es, Key e.1) : WaySt es key 0 es [] := ⟨by omega, h, rfl, rfl, rfl, fun x hx => by simp at hx, fun _ h => h⟩
theorem WaySt.step {es ed : List Ent} {key : List Int} {d : Nat} {hs : List (List Int)} (h : WaySt es key d ed hs) (hl : 1 < ed.length) (hd : d < 256) :
    WaySt es key (d + 1) (sideOf ed d (kb key d)) (hs ++ [rt (255 - d) (d + 1) (sideOf ed d (1 - kb key d))]) := by
  have e : 256 - d = (255 - d) + 1 := by omega
  have e2 : 256 - (d + 1) = 255 - d := by omega
  have h1 := h.sides
  have h2 := h.rest
  rw [e, sds, if_neg (by omega)] at h1
  rw [e, rst, if_neg (by omega)] at h2
  refine ⟨by omega, fun x hx => h.keys x (List.mem_filter.1 hx).1, ?_, ?_, by rw [List.length_append, h.len]; rfl, h.dgs.snoc (rt_len _ _ _).1 (rt_len _ _ _).2, fun x hx => h.sub x (List.mem_filter.1 hx).1⟩
  · rw [e2, List.append_assoc]
    exact h1
  · rw [e2]
    exact h2
theorem WaySt.done {es ed : List Ent} {key : List Int} {d : Nat} {hs : List (List Int)} (h : WaySt es key d ed hs) (hl : ed.length ≤ 1) : hs = sds 256 0 es key ∧ rst 256 0 es key = ed := by
  have h1 := h.sides
  have h2 := h.rest
  match hn : 256 - d with
  | 0 =>
    have e1 : sds 0 d ed key = [] := by simp [sds]
    have e2 : rst 0 d ed key = ed := by simp [rst]
    rw [hn, e1, List.append_nil] at h1
    rw [hn, e2] at h2
    exact ⟨h1, h2.symm⟩
  | k + 1 =>
    rw [hn, sds, if_pos hl, List.append_nil] at h1
    rw [hn, rst, if_pos hl] at h2
    exact ⟨h1, h2.symm⟩

theorem sdL_perm {ls : List Lf} {ed : List Ent} {d : Nat} (hd : d < 256) (hk : ∀ e ∈ ed, Key e.1) (h : ls.Perm (ed.map mkLf)) (c : Int) : (sdL ls d c).Perm ((sideOf ed d c).map mkLf) := by
  rw [← side_map ed d c hd hk]
  exact h.filter _

theorem sds_dgs : ∀ (n d : Nat) (l : List Ent) (key : List Int), Dgs (sds n d l key)
  | 0, _, _, _ => fun x hx => by simp [sds] at hx
  | n + 1, d, l, key => by
    intro x hx
    unfold sds at hx
    split at hx
    · simp at hx
    · rcases List.mem_cons.1 hx with rfl | hx
      · exact rt_len _ _ _
      · exact sds_dgs n (d + 1) _ key x hx

/-- store of a part of a block. -/
theorem wpList_stm {ops : Array Oper} {rest : List Oper} {op : Oper} {a : Act} {Q : Exit → Act → World → Prop} (w : World) (hgd : op.guard = none) (ty : TypeId) (x y : Operand) (ho : op.op = .store ty x y)
    (b off : Nat) (cells : Array Value) (hx : a.eval x = .pointer (some ⟨b, off, none⟩)) (hy : a.eval y = .agg cells) (ht : w.there b off cells.size) (hi : (Tryz.prog.info? ty).map (·.size) = some cells.size) (h1 : cells.all (·.oneCell') = true)
    (h : wpList Tryz.prog ops Q rest (a.put op.dst undef) (w.setCells b off cells.toList)) : wpList Tryz.prog ops Q (op :: rest) a w :=
  wpList_plain hgd fun _ hK => wp_store_mid ty x y ho b off cells hx hy ht hi h1 (hK _ _ h)

/-- What Way tells. -/
def wyH (es : List Ent) (key : List Int) : List (List Int) := if errB es = 0 then sds 256 0 es key else []
def wyN (es : List Ent) (key : List Int) : List Int := if errB es = 0 then endN (rst 256 0 es key) else nd 0 z32 z32 z32 z32
def WayPost (es : List Ent) (key : List Int) (w : World) (e : Ending) (w' : World) : Prop :=
  ∃ sa sc, e = .returned (.tuple #[.agg (encR (.slice sa (wyH es key).length sc) (wyN es key)).toArray, .int .i64 (errB es)]) ∧ w'.ownsRow w.heap.size 25 32 (.slice sa (wyH es key).length sc) (wyH es key).length (flatH (wyH es key)) ∧ Below w.heap.size w w'

end Go.Proofs.YtpihigcnoifcfaaGreatDoor
