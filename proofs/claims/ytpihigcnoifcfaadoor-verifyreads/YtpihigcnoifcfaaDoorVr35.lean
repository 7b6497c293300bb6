/- verify.Read, Present, Absent and Top, as contracts. -/
import Derived.Test.YtpihigcnoifcfaaDoorVr34
import Derived.Test.YtpihigcnoifcfaaDoorVr12
import Derived.Test.YtpihigcnoifcfaaDoorVr11
import Derived.Test.YtpihigcnoifcfaaDoorVr19
namespace Go.Proofs.YtpihigcnoifcfaaDoor
set_option maxRecDepth 20000
open Go.RowKit

theorem said_room {w : World} {g : Nat} {t : TypeId} (h : Blk w g t (sdP false z32).toArray) (V : List Int) (hV : V.length = 32) : (w.setCell ⟨g, 0, none⟩ (.bool true)).there g 1 (B V).size := (h.set 0 (.bool true)).there 1 _ (by simp [sdP, B_size, z32, hV])

theorem part_bool (t : Bool) (V : List Int) (w : World) : (part 4 (sdP t V).toArray 0).run Tryd.prog w = .ok (.bool t) w := by
  have hagg : (isAgg 4).run Tryd.prog w = .ok false w := Tryd.isAgg4 w
  unfold part
  rw [Sem.run_bind, hagg]
  simp [sdP]
theorem part_val (t : Bool) (V : List Int) (h : V.length = 32) (w : World) : (part 23 (sdP t V).toArray 1).run Tryd.prog w = .ok (.agg (B V)) w := by
  obtain ⟨i, hq, hz⟩ : ∃ i, Tryd.prog.info? 23 = some i ∧ i.size = 32 := ⟨_, rfl, rfl⟩
  have hagg : (isAgg 23).run Tryd.prog w = .ok true w := by
    unfold isAgg
    rw [Sem.run_bind, run_underlying Tryd.underlying23 w]
    rfl
  have hex : List.take 32 (sdP t V).tail = V.map (Value.int .u8) := by rw [show (sdP t V).tail = V.map (Value.int .u8) from rfl, List.take_of_length_le (by simp [h])]
  simp [part, Sem.run_bind, hagg, sizeOf, typeInfo, hq, hz, hex, B]
theorem said_eq {t u : Bool} {V U : List Int} (h : V.length = 32) (h' : U.length = 32) (w : World) :
    (Op.equalIn 10000 34 (.agg (sdP t V).toArray) (.agg (sdP u U).toArray)).run Tryd.prog w = .ok ((t == u) && decide (V = U)) w := by
  have hf : ∃ f0 f1 : Field, (Tryd.prog.fieldsOf 34).toList = [f0, f1] ∧ (f0.name ≠ "_" ∧ f0.type = 4 ∧ f0.offset = 0) ∧ (f1.name ≠ "_" ∧ f1.type = 23 ∧ f1.offset = 1) :=
    ⟨_, _, rfl, ⟨by decide, rfl, rfl⟩, ⟨by decide, rfl, rfl⟩⟩
  obtain ⟨f0, f1, hF, ⟨n0, t0, o0⟩, ⟨n1, t1, o1⟩⟩ := hf
  have hu : Tryd.prog.underlying 34 = some (.struct (Tryd.prog.fieldsOf 34)) := by kernel_rfl
  have e0 : ∀ w, (Op.equalIn 9999 4 (.bool t) (.bool u)).run Tryd.prog w = .ok (t == u) w := fun w => run_equalIn_bool (P := Tryd.prog) w 9998 4 t u Tryd.underlying4
  have e1 : ∀ w, (Op.equalIn 9999 23 (.agg (B V)) (.agg (B U))).run Tryd.prog w = .ok (decide (V = U)) w := fun w => arr_eqd 9997 Tryd.underlying23 V U h h' w
  rw [show (10000 : Nat) = 9999 + 1 from rfl, run_equalIn_struct w 9999 34 _ _ hu (by kernel_rfl), hF,
    eqF_cons n0 (by rw [t0, o0]; exact part_bool t V w) (by rw [t0, o0]; exact part_bool u U w) (by rw [t0]; exact e0 w),
    eqF_cons n1 (by rw [t1, o1]; exact part_val t V h w) (by rw [t1, o1]; exact part_val u U h' w) (by rw [t1]; exact e1 w)]
  simp only [Op.eqFields, Sem.run_pure]
  cases t <;> cases u <;> by_cases e : V = U <;> simp [e]

theorem rdV_length (root key zs : List Int) (k : Int) (a b c d : List Int) (hb : b.length = 32) : (rdV root key zs k a b c d).length = 32 := by
  unfold rdV
  split
  · exact hb
  · rfl

/-- Decode, with the end told by its parts. -/
theorem dec_at {v : Value} {zs : List Int} {w : World} (h : Reads w v zs) (hl : zs.length ≤ 140737488355328) (hL : Laid w) {N : List Int} (hn : dpN zs = N) :
    Calls Tryd.prog 14 #[v] w fun e w' => ∃ qa qc, e = .returned (.tuple #[.agg (encR (.slice qa (dpH zs).length qc) N).toArray, .int .i64 (dpE zs)]) ∧ HsAt w' (.slice qa (dpH zs).length qc) (dpH zs) ∧ Below w.heap.size w w' := by
  have hb : Bytes zs := by obtain ⟨_, _, _, _, _, hb, _⟩ := h; exact hb
  refine (pkdecode_any v zs w h hl hL).mono ?_
  rintro e w' ⟨a, c, h1, h2, h3⟩
  rw [hn] at h1
  exact ⟨a, c, h1, hsAt_own (base := w.heap.size) h2 (dp_dg hb), h3⟩

set_option maxHeartbeats 8000000 in
theorem vread_any (root key : List Int) (v : Value) (zs : List Int) (k : Int) (a b c d : List Int) (w : World) (hroot : Key root) (hkey : Key key) (h : Reads w v zs) (hl : zs.length ≤ 140737488355328) (hL : Laid w) (hn : dpN zs = nd k a b c d) (hN : Nd k a b c d) :
    Calls Tryd.prog 7 #[.agg (B root), .agg (B key), v] w fun e w' => e = .returned (.tuple #[.agg (sdP (rdB root key zs k a b c d) (rdV root key zs k a b c d)).toArray, .int .i64 (rdE root key zs k a b c d)]) ∧ Below w.heap.size w w' := by
  have hb : Bytes zs := by obtain ⟨_, _, _, _, _, hb, _⟩ := h; exact hb
  have KV := hidden h.kp
  have KW := hidden (below_kp w)
  have KL := hidden hL.kp
  have hDe : ∀ w', Reads w' v zs → Laid w' → Calls Tryd.prog 14 #[v] w' fun e w'' => ∃ qa qc, e = .returned (.tuple #[.agg (encR (.slice qa (dpH zs).length qc) (nd k a b c d)).toArray, .int .i64 (dpE zs)]) ∧ HsAt w'' (.slice qa (dpH zs).length qc) (dpH zs) ∧ Below w'.heap.size w' w'' := fun w' h1 h2 => dec_at h1 hl h2 hn
  obtain ⟨fs, hus⟩ := u_said
  have HUS := hidden hus
  obtain ⟨fp, hup⟩ := u_proof
  have HUP := hidden hup
  have HSP : Hid (∀ s', (Tryd.prog.info? 46).map (·.size) = some (encR s' (nd k a b c d)).toArray.size ∧ (encR (.slice none 0 0) (List.replicate 129 0)).toArray.size = (encR s' (nd k a b c d)).toArray.size) := fun s' => ⟨encR_sz _ _ hN.length, by simp [encR, hN.length]⟩
  have HS0 := hidden (said_sz false z32 rfl)
  have HS1 := hidden (said_sz true b hN.lb)
  have HSr := hidden (hash_sz root hroot.1)
  have HSk : Hid ((Tryd.prog.info? 24).map (·.size) = some (B key).size) := by show _ = _; rw [B_size, hkey.1]; exact sz_path
  have HNl := hidden hN.length
  obtain ⟨va, vc, rfl, _⟩ := h
  obtain ⟨l, hll⟩ : ∃ l, l = zs.length := ⟨_, rfl⟩
  rw [← hll] at KV hDe ⊢
  by_cases ho : okD zs
  · have hg := okD_end hb ho hn hN
    have HE : dpE zs = 0 := by rw [dpE, if_pos ho]
    rw [HE] at hDe
    have hAc : ∀ w' s', HsAt w' s' (dpH zs) → Laid w' → Calls Tryd.prog 18 #[.agg (B root), .agg (B key), .agg (encR s' (nd k a b c d)).toArray] w' fun e w'' => e = .returned (.bool (vfA root key (dpH zs) k a b c d)) ∧ Below w'.heap.size w' w'' := fun w' s' h1 h2 => accepted_any root key s' _ k a b c d w' hroot hkey h1 hN dp_len hg.1 hg.2 h2
    have hLe : ∀ w', Calls Tryd.prog 19 #[.agg (B key), .agg (B (nd k a b c d))] w' fun e w'' => e = .returned (.bool (vfO key k a)) ∧ Below w'.heap.size w' w'' := fun w' => leafOf_any key k a b c d w' hkey hN
    have HRg : Hid (∀ w g t s', Blk w g t (encR s' (nd k a b c d)).toArray → w.rangeAt g 34 (b.map (Value.int .u8))) := fun w g t s' h => end_part h hN.segB
    have HLb : Hid ((Tryd.prog.info? 23).map (·.size) = some (B b).toList.length) := hash_ln b hN.lb
    have HLb2 := hidden (hash_sz b hN.lb)
    have HLen : Hid (b.length = 32) := hN.lb
    have HS2 : Hid ((sdP true b).toArray.size = (sdP true b).toArray.size) := rfl
    have HB1 : Hid ((Tryd.prog.info? 4).map (·.size) = some 1) := by show _ = _; kernel_rfl
    by_cases hA : vfA root key (dpH zs) k a b c d = true
    · have hrE : rdE root key zs k a b c d = 0 := by rw [rdE, if_pos ho, if_pos hA]
      rw [hA] at hAc
      by_cases hO : vfO key k a = true
      · have hrB : rdB root key zs k a b c d = true := by simp [rdB, rdA, ho, hA, hO]
        have hrV : rdV root key zs k a b c d = b := by rw [rdV, if_pos hrB]
        rw [hO] at hLe
        rw [hrE, hrB, hrV]
        have HDe := hidden hDe
        have HAc := hidden hAc
        have HLe := hidden hLe
        clear hDe hAc hLe hll hl hn hN hus hup hL hroot hkey hrE hrB hrV HE ho hb hg
        generalize dpH zs = HH at *
        obtain ⟨n, hnn⟩ : ∃ n, n = HH.length := ⟨_, rfl⟩
        rw [← hnn] at HDe
        clear hnn
        generalize nd k a b c d = N at *
        go_enter Tryd.func7, Tryd.ntmps7
        go_wp2_with (first
          | ((with_reducible refine at_bxd 3 ?_); refine wpList_bx _ rfl _ _ rfl _ rfl ?_; intro x1 g3 hg1 hl1 bq1 q1; replace KV := hidden (KV.out.step q1); replace KW := hidden (KW.out.step q1); replace KL := hidden (KL.out.step q1); have K3 := hidden bq1.kp; clear hg1 hl1 bq1 q1)
          | ((with_reducible refine at_bxd 4 ?_); refine wpList_bx _ rfl _ _ rfl _ rfl ?_; intro x2 g4 hg2 hl2 bq2 q2; replace KV := hidden (KV.out.step q2); replace KW := hidden (KW.out.step q2); replace KL := hidden (KL.out.step q2); replace K3 := hidden (K3.out.step q2); have K4 := hidden bq2.kp; clear hg2 hl2 bq2 q2)
          | ((with_reducible refine at_ald 6 ?_); refine wpList_al _ rfl _ rfl _ zero_said ?_; intro x3 g6 hg6 hl6 B6 q3; have HG6 : Hid (w.heap.size ≤ g6) := Nat.le_trans KW.out.now.size hg6; replace KV := hidden (KV.out.step q3); replace KW := hidden (KW.out.step q3); replace KL := hidden (KL.out.step q3); replace K3 := hidden (K3.out.step q3); replace K4 := hidden (K4.out.step q3); have K6 := hidden B6.kp; clear hg6 hl6 B6 q3)
          | ((with_reducible refine at_ald 8 ?_); refine wpList_al _ rfl _ rfl _ zero_proof ?_; intro x5 g8 hg8 hl5 bq5 q5; have HNE : Hid (g8 ≠ g6) := (by have h1 := K6.out.now.lt; show _ ≠ _; omega); clear hl5)
          | ((with_reducible refine at_st 8 ?_); refine wpList_sto _ rfl _ _ _ rfl g8 _ ((encR (.slice qa n qc) N).toArray) rfl rfl bq5 (HSP.out _).1 (HSP.out _).2 (encR_one _ _ _ _) ?_; intro x6 by6 r6; have q6 := below_row q5 r6 hg8; replace KV := hidden (KV.out.step q6); replace KW := hidden (KW.out.step q6); replace KL := hidden (KL.out.step q6); replace K3 := hidden (K3.out.step q6); replace K4 := hidden (K4.out.step q6); replace K6 := hidden (K6.out.step q6); replace KQ := hidden (KQ.out.step q6); have K8 := hidden by6.kp; clear q6 q5 r6 by6 bq5 hg8)
          | ((with_reducible refine at_ldd 20 3 ?_); refine wpList_ld _ rfl _ _ rfl g3 _ rfl K3.out.now _ _ Tryd.underlying23 HSr.out.1 ?_)
          | ((with_reducible refine at_ldd 21 4 ?_); refine wpList_ld _ rfl _ _ rfl g4 _ rfl K4.out.now _ _ Tryd.underlying24 HSk.out ?_)
          | ((with_reducible refine at_ldd 22 8 ?_); refine wpList_lds _ rfl _ _ rfl g8 _ _ rfl K8.out.now HUP.out (HSP.out _).1 ?_)
          | ((with_reducible refine at_ldd 27 4 ?_); refine wpList_ld _ rfl _ _ rfl g4 _ rfl K4.out.now _ _ Tryd.underlying24 HSk.out ?_)
          | ((with_reducible refine at_ldd 29 28 ?_); refine wpList_lde _ rfl _ rfl g8 _ _ N rfl K8.out.now HNl.out ?_)
          | (go_at_call 19; refine (HLe.out _).mono ?_; rintro e x8 ⟨rfl, q8⟩; replace KV := hidden (KV.out.step q8); replace KW := hidden (KW.out.step q8); replace KL := hidden (KL.out.step q8); replace K3 := hidden (K3.out.step q8); replace K4 := hidden (K4.out.step q8); replace K6 := hidden (K6.out.step q8); replace KQ := hidden (KQ.out.step q8); replace K8 := hidden (K8.out.step q8); have mk_fverifyisLeafOf_1 : Hid True := trivial; clear q8)
          | (go_at_call 18; refine (HAc.out _ _ KQ.out.now KL.out.now).mono ?_; rintro e x7 ⟨rfl, q7⟩; replace KV := hidden (KV.out.step q7); replace KW := hidden (KW.out.step q7); replace KL := hidden (KL.out.step q7); replace K3 := hidden (K3.out.step q7); replace K4 := hidden (K4.out.step q7); replace K6 := hidden (K6.out.step q7); replace KQ := hidden (KQ.out.step q7); replace K8 := hidden (K8.out.step q7); have mk_fverifyaccepted_1 : Hid True := trivial; clear q7)
          | (go_at_call 14; refine (HDe.out _ KV.out.now KL.out.now).mono ?_; rintro e x4 ⟨qa, qc, rfl, hq, q4⟩; replace KV := hidden (KV.out.step q4); replace KW := hidden (KW.out.step q4); replace KL := hidden (KL.out.step q4); replace K3 := hidden (K3.out.step q4); replace K4 := hidden (K4.out.step q4); replace K6 := hidden (K6.out.step q4); have KQ := hidden hq.kp; clear hq; have mk_fpackDecode_1 : Hid True := trivial; clear q4))
        have B8 := K8.out.now.drew
        have B6 := K6.out.now.drew
        have hne : g8 ≠ g6 := HNE.out
        have hr1 := said_room B6 b HLen.out
        have B6' := blk_said B6 b HLen.out
        have hgr : x8.drew.grownBy ((x8.drew.setCell ⟨g6, 0, none⟩ (.bool true)).setCells g6 1 (B b).toList) (some g6) := grown_trans (grown_setCell _ _ _ _) (grown_setCells g6 (B b).toList 1 _)
        refine wp_region_held_drew (S := fun w' => Blk w' g8 46 (encR (.slice qa n qc) N).toArray) (by kernel_rfl) (B8) (fun hHeld => ?_)
        refine wpAnyH_take (i := 0) (v := .pointer (some ⟨g8, 1, none⟩)) rfl (by kernel_rfl) (by kernel_rfl) (by kernel_rfl) (fun _ _ _ h => h) (Or.inl ⟨by rfl, fun w hS => by go_simp⟩) hHeld ?_
        simp only [Act.put, List.getElem_toArray, List.getElem_cons_zero, List.setIfInBounds_toArray, List.set_cons_zero, List.set_cons_succ]
        refine wpAnyH_take (i := 1) (v := .pointer (some ⟨g8, 34, none⟩)) rfl (by kernel_rfl) (by kernel_rfl) (by kernel_rfl) (fun _ _ _ h => h) (Or.inl ⟨by rfl, fun w hS => by go_simp⟩) hHeld ?_
        simp only [Act.put, List.getElem_toArray, List.getElem_cons_zero, List.getElem_cons_succ, List.setIfInBounds_toArray, List.set_cons_zero, List.set_cons_succ]
        refine wpAnyH_take (i := 2) (v := .agg (B b)) rfl (by kernel_rfl) (by kernel_rfl) (by kernel_rfl) (fun _ _ _ h => h) (yieldsIf_load_mid rfl 23 (.tmp 32) rfl g8 34 rfl (B b).toList _ (fun w hS => HRg.out _ _ _ _ hS) Tryd.underlying23 rfl HLb.out) hHeld ?_
        simp only [Act.put, List.getElem_toArray, List.getElem_cons_zero, List.getElem_cons_succ, List.setIfInBounds_toArray, List.set_cons_zero, List.set_cons_succ]
        refine wpAnyH_take (i := 3) (v := .pointer (some ⟨g6, 0, none⟩)) rfl (by kernel_rfl) (by kernel_rfl) (by kernel_rfl) (fun _ _ _ h => h) (Or.inl ⟨by rfl, fun w hS => by go_simp⟩) hHeld ?_
        simp only [Act.put, List.getElem_toArray, List.getElem_cons_zero, List.getElem_cons_succ, List.setIfInBounds_toArray, List.set_cons_zero, List.set_cons_succ]
        refine wpAnyH_ready (rs := [4]) (by kernel_rfl) (by simp) ?_
        refine AllReadyH.cons rfl (fun KQ2 hK => ?_) AllReadyH.nil
        refine step_stc1 _ rfl _ _ _ rfl g6 0 (.bool true) (.bool false) rfl rfl rfl rfl (said_there B6) (B6.frozen 0) HB1.out ?_
        refine hK.out _ _ (hHeld.other 0 _ hne) (fun hHeld => ?_)
        clear hK KQ2
        refine wpAnyH_take (i := 5) (v := .pointer (some ⟨g6, 1, none⟩)) rfl (by kernel_rfl) (by kernel_rfl) (by kernel_rfl) (fun _ _ _ h => h) (Or.inl ⟨by rfl, fun w hS => by go_simp⟩) hHeld ?_
        simp only [Act.put, List.getElem_toArray, List.getElem_cons_zero, List.getElem_cons_succ, List.setIfInBounds_toArray, List.set_cons_zero, List.set_cons_succ]
        refine wpAnyH_ready (rs := [6]) (by kernel_rfl) (by simp) ?_
        refine AllReadyH.cons rfl (fun KQ2 hK => ?_) AllReadyH.nil
        refine step_stmid _ rfl _ _ _ rfl g6 1 (B b) rfl rfl hr1 HLb2.out.1 (B_one _) ?_
        refine hK.out _ _ (hHeld.kept (grown_setCells g6 _ 1 _) hne) (fun hHeld => ?_)
        clear hK KQ2
        refine wpAnyH_done (by kernel_rfl) ?_ _
        have hBW : Hid (Below w.heap.size w ((x8.drew.setCell ⟨g6, 0, none⟩ (.bool true)).setCells g6 1 (B b).toList)) := below_row (below_drewN KW.out.now 1) hgr HG6.out
        have K6' := hidden B6'
        clear hHeld hr1 B6' B6 B8 hgr
        generalize ((x8.drew.setCell ⟨g6, 0, none⟩ (.bool true)).setCells g6 1 (B b).toList) = y0 at *
        go_wp2_with (first
          | ((with_reducible refine at_ldd 36 6 ?_); refine wpList_lds _ rfl _ _ rfl g6 _ _ rfl K6'.out HUS.out HS1.out.1 ?_)
          | ((with_reducible refine at_st 6 ?_); refine wpList_sto _ rfl _ _ _ rfl g6 _ (sdP true b).toArray rfl rfl K6'.out HS1.out.1 rfl (said_one _ _) ?_; intro yz Bz rz))
        exact bodyPost_ret (v := .tuple #[.agg (sdP true b).toArray, .int .i64 0]) (results_agg_tmp rfl _ _ g6 _ _ rfl rfl Bz HUS.out HS1.out.1) rfl ⟨rfl, below_row hBW.out rz HG6.out⟩
      · have hO' : vfO key k a = false := by simpa using hO
        have hrB : rdB root key zs k a b c d = false := by simp [rdB, hO']
        have hrV : rdV root key zs k a b c d = z32 := by rw [rdV, if_neg (by rw [hrB]; simp)]
        rw [hO'] at hLe
        rw [hrE, hrB, hrV]
        have HDe := hidden hDe
        have HAc := hidden hAc
        have HLe := hidden hLe
        clear hDe hAc hLe hll hl hn hN hus hup hL hroot hkey hrE hrB hrV HE ho hb hg
        generalize dpH zs = HH at *
        obtain ⟨n, hnn⟩ : ∃ n, n = HH.length := ⟨_, rfl⟩
        rw [← hnn] at HDe
        clear hnn
        generalize nd k a b c d = N at *
        go_enter Tryd.func7, Tryd.ntmps7
        go_wp2_with (first
          | ((with_reducible refine at_bxd 3 ?_); refine wpList_bx _ rfl _ _ rfl _ rfl ?_; intro x1 g3 hg1 hl1 bq1 q1; replace KV := hidden (KV.out.step q1); replace KW := hidden (KW.out.step q1); replace KL := hidden (KL.out.step q1); have K3 := hidden bq1.kp; clear hg1 hl1 bq1 q1)
          | ((with_reducible refine at_bxd 4 ?_); refine wpList_bx _ rfl _ _ rfl _ rfl ?_; intro x2 g4 hg2 hl2 bq2 q2; replace KV := hidden (KV.out.step q2); replace KW := hidden (KW.out.step q2); replace KL := hidden (KL.out.step q2); replace K3 := hidden (K3.out.step q2); have K4 := hidden bq2.kp; clear hg2 hl2 bq2 q2)
          | ((with_reducible refine at_ald 6 ?_); refine wpList_al _ rfl _ rfl _ zero_said ?_; intro x3 g6 hg6 hl6 B6 q3; have HG6 : Hid (w.heap.size ≤ g6) := Nat.le_trans KW.out.now.size hg6; replace KV := hidden (KV.out.step q3); replace KW := hidden (KW.out.step q3); replace KL := hidden (KL.out.step q3); replace K3 := hidden (K3.out.step q3); replace K4 := hidden (K4.out.step q3); have K6 := hidden B6.kp; clear hg6 hl6 B6 q3)
          | ((with_reducible refine at_ald 8 ?_); refine wpList_al _ rfl _ rfl _ zero_proof ?_; intro x5 g8 hg8 hl5 bq5 q5; have HNE : Hid (g8 ≠ g6) := (by have h1 := K6.out.now.lt; show _ ≠ _; omega); clear hl5)
          | ((with_reducible refine at_st 8 ?_); refine wpList_sto _ rfl _ _ _ rfl g8 _ ((encR (.slice qa n qc) N).toArray) rfl rfl bq5 (HSP.out _).1 (HSP.out _).2 (encR_one _ _ _ _) ?_; intro x6 by6 r6; have q6 := below_row q5 r6 hg8; replace KV := hidden (KV.out.step q6); replace KW := hidden (KW.out.step q6); replace KL := hidden (KL.out.step q6); replace K3 := hidden (K3.out.step q6); replace K4 := hidden (K4.out.step q6); replace K6 := hidden (K6.out.step q6); replace KQ := hidden (KQ.out.step q6); have K8 := hidden by6.kp; clear q6 q5 r6 by6 bq5 hg8)
          | ((with_reducible refine at_ldd 20 3 ?_); refine wpList_ld _ rfl _ _ rfl g3 _ rfl K3.out.now _ _ Tryd.underlying23 HSr.out.1 ?_)
          | ((with_reducible refine at_ldd 21 4 ?_); refine wpList_ld _ rfl _ _ rfl g4 _ rfl K4.out.now _ _ Tryd.underlying24 HSk.out ?_)
          | ((with_reducible refine at_ldd 22 8 ?_); refine wpList_lds _ rfl _ _ rfl g8 _ _ rfl K8.out.now HUP.out (HSP.out _).1 ?_)
          | ((with_reducible refine at_ldd 27 4 ?_); refine wpList_ld _ rfl _ _ rfl g4 _ rfl K4.out.now _ _ Tryd.underlying24 HSk.out ?_)
          | ((with_reducible refine at_ldd 29 28 ?_); refine wpList_lde _ rfl _ rfl g8 _ _ N rfl K8.out.now HNl.out ?_)
          | ((with_reducible refine at_ldd 36 6 ?_); refine wpList_lds _ rfl _ _ rfl g6 _ _ rfl K6.out.now HUS.out HS0.out.1 ?_)
          | ((with_reducible refine at_st 6 ?_); refine wpList_sto _ rfl _ _ _ rfl g6 _ (sdP false z32).toArray rfl rfl K6.out.now HS0.out.1 rfl (said_one _ _) ?_; intro yz Bz rz)
          | (go_at_call 19; refine (HLe.out _).mono ?_; rintro e x8 ⟨rfl, q8⟩; replace KV := hidden (KV.out.step q8); replace KW := hidden (KW.out.step q8); replace KL := hidden (KL.out.step q8); replace K3 := hidden (K3.out.step q8); replace K4 := hidden (K4.out.step q8); replace K6 := hidden (K6.out.step q8); replace KQ := hidden (KQ.out.step q8); replace K8 := hidden (K8.out.step q8); have mk_fverifyisLeafOf_1 : Hid True := trivial; clear q8)
          | (go_at_call 18; refine (HAc.out _ _ KQ.out.now KL.out.now).mono ?_; rintro e x7 ⟨rfl, q7⟩; replace KV := hidden (KV.out.step q7); replace KW := hidden (KW.out.step q7); replace KL := hidden (KL.out.step q7); replace K3 := hidden (K3.out.step q7); replace K4 := hidden (K4.out.step q7); replace K6 := hidden (K6.out.step q7); replace KQ := hidden (KQ.out.step q7); replace K8 := hidden (K8.out.step q7); have mk_fverifyaccepted_1 : Hid True := trivial; clear q7)
          | (go_at_call 14; refine (HDe.out _ KV.out.now KL.out.now).mono ?_; rintro e x4 ⟨qa, qc, rfl, hq, q4⟩; replace KV := hidden (KV.out.step q4); replace KW := hidden (KW.out.step q4); replace KL := hidden (KL.out.step q4); replace K3 := hidden (K3.out.step q4); replace K4 := hidden (K4.out.step q4); replace K6 := hidden (K6.out.step q4); have KQ := hidden hq.kp; clear hq; have mk_fpackDecode_1 : Hid True := trivial; clear q4))
        exact bodyPost_ret (v := .tuple #[.agg (sdP false z32).toArray, .int .i64 0]) (results_agg_tmp rfl _ _ g6 _ _ rfl rfl Bz HUS.out HS0.out.1) rfl ⟨rfl, below_row KW.out.now rz HG6.out⟩
    · have hA' : vfA root key (dpH zs) k a b c d = false := by simpa using hA
      have hrE : rdE root key zs k a b c d = 11 := by rw [rdE, if_pos ho, if_neg hA]
      have hrB : rdB root key zs k a b c d = false := by simp [rdB, rdA, hA']
      have hrV : rdV root key zs k a b c d = z32 := by rw [rdV, if_neg (by rw [hrB]; simp)]
      rw [hA'] at hAc
      rw [hrE, hrB, hrV]
      have HDe := hidden hDe
      have HAc := hidden hAc
      have HLe := hidden hLe
      clear hDe hAc hLe hll hl hn hN hus hup hL hroot hkey hrE hrB hrV HE ho hb hg
      generalize dpH zs = HH at *
      obtain ⟨n, hnn⟩ : ∃ n, n = HH.length := ⟨_, rfl⟩
      rw [← hnn] at HDe
      clear hnn
      generalize nd k a b c d = N at *
      go_enter Tryd.func7, Tryd.ntmps7
      go_wp2_with (first
        | ((with_reducible refine at_bxd 3 ?_); refine wpList_bx _ rfl _ _ rfl _ rfl ?_; intro x1 g3 hg1 hl1 bq1 q1; replace KV := hidden (KV.out.step q1); replace KW := hidden (KW.out.step q1); replace KL := hidden (KL.out.step q1); have K3 := hidden bq1.kp; clear hg1 hl1 bq1 q1)
        | ((with_reducible refine at_bxd 4 ?_); refine wpList_bx _ rfl _ _ rfl _ rfl ?_; intro x2 g4 hg2 hl2 bq2 q2; replace KV := hidden (KV.out.step q2); replace KW := hidden (KW.out.step q2); replace KL := hidden (KL.out.step q2); replace K3 := hidden (K3.out.step q2); have K4 := hidden bq2.kp; clear hg2 hl2 bq2 q2)
        | ((with_reducible refine at_ald 6 ?_); refine wpList_al _ rfl _ rfl _ zero_said ?_; intro x3 g6 hg6 hl6 B6 q3; have HG6 : Hid (w.heap.size ≤ g6) := Nat.le_trans KW.out.now.size hg6; replace KV := hidden (KV.out.step q3); replace KW := hidden (KW.out.step q3); replace KL := hidden (KL.out.step q3); replace K3 := hidden (K3.out.step q3); replace K4 := hidden (K4.out.step q3); have K6 := hidden B6.kp; clear hg6 hl6 B6 q3)
        | ((with_reducible refine at_ald 8 ?_); refine wpList_al _ rfl _ rfl _ zero_proof ?_; intro x5 g8 hg8 hl5 bq5 q5; have HNE : Hid (g8 ≠ g6) := (by have h1 := K6.out.now.lt; show _ ≠ _; omega); clear hl5)
        | ((with_reducible refine at_st 8 ?_); refine wpList_sto _ rfl _ _ _ rfl g8 _ ((encR (.slice qa n qc) N).toArray) rfl rfl bq5 (HSP.out _).1 (HSP.out _).2 (encR_one _ _ _ _) ?_; intro x6 by6 r6; have q6 := below_row q5 r6 hg8; replace KV := hidden (KV.out.step q6); replace KW := hidden (KW.out.step q6); replace KL := hidden (KL.out.step q6); replace K3 := hidden (K3.out.step q6); replace K4 := hidden (K4.out.step q6); replace K6 := hidden (K6.out.step q6); replace KQ := hidden (KQ.out.step q6); have K8 := hidden by6.kp; clear q6 q5 r6 by6 bq5 hg8)
        | ((with_reducible refine at_ldd 20 3 ?_); refine wpList_ld _ rfl _ _ rfl g3 _ rfl K3.out.now _ _ Tryd.underlying23 HSr.out.1 ?_)
        | ((with_reducible refine at_ldd 21 4 ?_); refine wpList_ld _ rfl _ _ rfl g4 _ rfl K4.out.now _ _ Tryd.underlying24 HSk.out ?_)
        | ((with_reducible refine at_ldd 22 8 ?_); refine wpList_lds _ rfl _ _ rfl g8 _ _ rfl K8.out.now HUP.out (HSP.out _).1 ?_)
        | ((with_reducible refine at_ldd 25 6 ?_); refine wpList_lds _ rfl _ _ rfl g6 _ _ rfl K6.out.now HUS.out HS0.out.1 ?_)
        | ((with_reducible refine at_st 6 ?_); refine wpList_sto _ rfl _ _ _ rfl g6 _ (sdP false z32).toArray rfl rfl K6.out.now HS0.out.1 rfl (said_one _ _) ?_; intro yz Bz rz)
        | (go_at_call 18; refine (HAc.out _ _ KQ.out.now KL.out.now).mono ?_; rintro e x7 ⟨rfl, q7⟩; replace KV := hidden (KV.out.step q7); replace KW := hidden (KW.out.step q7); replace KL := hidden (KL.out.step q7); replace K3 := hidden (K3.out.step q7); replace K4 := hidden (K4.out.step q7); replace K6 := hidden (K6.out.step q7); replace KQ := hidden (KQ.out.step q7); replace K8 := hidden (K8.out.step q7); have mk_fverifyaccepted_1 : Hid True := trivial; clear q7)
        | (go_at_call 14; refine (HDe.out _ KV.out.now KL.out.now).mono ?_; rintro e x4 ⟨qa, qc, rfl, hq, q4⟩; replace KV := hidden (KV.out.step q4); replace KW := hidden (KW.out.step q4); replace KL := hidden (KL.out.step q4); replace K3 := hidden (K3.out.step q4); replace K4 := hidden (K4.out.step q4); replace K6 := hidden (K6.out.step q4); have KQ := hidden hq.kp; clear hq; have mk_fpackDecode_1 : Hid True := trivial; clear q4))
      exact bodyPost_ret (v := .tuple #[.agg (sdP false z32).toArray, .int .i64 11]) (results_agg_tmp rfl _ _ g6 _ _ rfl rfl Bz HUS.out HS0.out.1) rfl ⟨rfl, below_row KW.out.now rz HG6.out⟩
  · have HE : dpE zs = 10 := by rw [dpE, if_neg ho]
    have hrE : rdE root key zs k a b c d = 10 := by rw [rdE, if_neg ho]
    have hrB : rdB root key zs k a b c d = false := by simp [rdB, rdA, ho]
    have hrV : rdV root key zs k a b c d = z32 := by rw [rdV, if_neg (by rw [hrB]; simp)]
    rw [HE] at hDe
    rw [hrE, hrB, hrV]
    have HDe := hidden hDe
    clear hDe hll hl hn hN hus hup hL hroot hkey hrE hrB hrV HE ho hb
    generalize dpH zs = HH at *
    obtain ⟨n, hnn⟩ : ∃ n, n = HH.length := ⟨_, rfl⟩
    rw [← hnn] at HDe
    clear hnn
    generalize nd k a b c d = N at *
    go_enter Tryd.func7, Tryd.ntmps7
    go_wp2_with (first
      | ((with_reducible refine at_bxd 3 ?_); refine wpList_bx _ rfl _ _ rfl _ rfl ?_; intro x1 g3 hg1 hl1 bq1 q1; replace KV := hidden (KV.out.step q1); replace KW := hidden (KW.out.step q1); replace KL := hidden (KL.out.step q1); have K3 := hidden bq1.kp; clear hg1 hl1 bq1 q1)
      | ((with_reducible refine at_bxd 4 ?_); refine wpList_bx _ rfl _ _ rfl _ rfl ?_; intro x2 g4 hg2 hl2 bq2 q2; replace KV := hidden (KV.out.step q2); replace KW := hidden (KW.out.step q2); replace KL := hidden (KL.out.step q2); replace K3 := hidden (K3.out.step q2); have K4 := hidden bq2.kp; clear hg2 hl2 bq2 q2)
      | ((with_reducible refine at_ald 6 ?_); refine wpList_al _ rfl _ rfl _ zero_said ?_; intro x3 g6 hg6 hl6 B6 q3; have HG6 : Hid (w.heap.size ≤ g6) := Nat.le_trans KW.out.now.size hg6; replace KV := hidden (KV.out.step q3); replace KW := hidden (KW.out.step q3); replace KL := hidden (KL.out.step q3); replace K3 := hidden (K3.out.step q3); replace K4 := hidden (K4.out.step q3); have K6 := hidden B6.kp; clear hg6 hl6 B6 q3)
      | ((with_reducible refine at_ald 8 ?_); refine wpList_al _ rfl _ rfl _ zero_proof ?_; intro x5 g8 hg8 hl5 bq5 q5; have HNE : Hid (g8 ≠ g6) := (by have h1 := K6.out.now.lt; show _ ≠ _; omega); clear hl5)
      | ((with_reducible refine at_st 8 ?_); refine wpList_sto _ rfl _ _ _ rfl g8 _ ((encR (.slice qa n qc) N).toArray) rfl rfl bq5 (HSP.out _).1 (HSP.out _).2 (encR_one _ _ _ _) ?_; intro x6 by6 r6; have q6 := below_row q5 r6 hg8; replace KV := hidden (KV.out.step q6); replace KW := hidden (KW.out.step q6); replace KL := hidden (KL.out.step q6); replace K3 := hidden (K3.out.step q6); replace K4 := hidden (K4.out.step q6); replace K6 := hidden (K6.out.step q6); replace KQ := hidden (KQ.out.step q6); have K8 := hidden by6.kp; clear q6 q5 r6 by6 bq5 hg8)
      | ((with_reducible refine at_ldd 17 6 ?_); refine wpList_lds _ rfl _ _ rfl g6 _ _ rfl K6.out.now HUS.out HS0.out.1 ?_)
      | ((with_reducible refine at_st 6 ?_); refine wpList_sto _ rfl _ _ _ rfl g6 _ (sdP false z32).toArray rfl rfl K6.out.now HS0.out.1 rfl (said_one _ _) ?_; intro yz Bz rz)
      | (go_at_call 14; refine (HDe.out _ KV.out.now KL.out.now).mono ?_; rintro e x4 ⟨qa, qc, rfl, hq, q4⟩; replace KV := hidden (KV.out.step q4); replace KW := hidden (KW.out.step q4); replace KL := hidden (KL.out.step q4); replace K3 := hidden (K3.out.step q4); replace K4 := hidden (K4.out.step q4); replace K6 := hidden (K6.out.step q4); have KQ := hidden hq.kp; clear hq; have mk_fpackDecode_1 : Hid True := trivial; clear q4))
    exact bodyPost_ret (v := .tuple #[.agg (sdP false z32).toArray, .int .i64 10]) (results_agg_tmp rfl _ _ g6 _ _ rfl rfl Bz HUS.out HS0.out.1) rfl ⟨rfl, below_row KW.out.now rz HG6.out⟩

end Go.Proofs.YtpihigcnoifcfaaDoor

/- verify.Top, Present and Absent, as contracts. -/
namespace Go.Proofs.YtpihigcnoifcfaaDoor
set_option maxRecDepth 20000
open Go.RowKit

/-- Whether the bytes say that the key is there with this value; whether they say that it is absent. -/
def psB (root key ys zs : List Int) (k : Int) (a b c d : List Int) : Bool := decide (ys.length ≤ 1024) && (rdB root key zs k a b c d && decide (rdV root key zs k a b c d = vaD ys))
def abB (root key zs : List Int) (k : Int) (a b c d : List Int) : Bool := decide (rdE root key zs k a b c d = 0) && !rdB root key zs k a b c d
theorem rdB_ok {root key zs : List Int} {k : Int} {a b c d : List Int} (h : rdE root key zs k a b c d ≠ 0) : rdB root key zs k a b c d = false := by
  unfold rdE at h
  unfold rdB rdA
  split at h
  · split at h
    · exact absurd rfl h
    · rename_i ho hA
      simp [ho, hA]
  · rename_i ho
    simp [ho]
theorem vfT_length (key zs : List Int) (k : Int) (a b c d : List Int) : (vfT key zs k a b c d).length = 32 := by
  unfold vfT
  split
  · exact upH_l _ _ _ _ _ _ _
  · rfl

set_option maxHeartbeats 4000000 in
theorem vtop_any (key : List Int) (v : Value) (zs : List Int) (k : Int) (a b c d : List Int) (w : World) (hkey : Key key) (h : Reads w v zs) (hl : zs.length ≤ 140737488355328) (hL : Laid w) (hn : dpN zs = nd k a b c d) (hN : Nd k a b c d) :
    Calls Tryd.prog 5 #[.agg (B key), v] w fun e w' => e = .returned (.tuple #[.agg (B (vfT key zs k a b c d)), .int .i64 (dpE zs)]) ∧ Below w.heap.size w w' := by
  have hb : Bytes zs := by obtain ⟨_, _, _, _, _, hb, _⟩ := h; exact hb
  have KV := hidden h.kp
  have KW := hidden (below_kp w)
  have KL := hidden hL.kp
  have hDe : ∀ w', Reads w' v zs → Laid w' → Calls Tryd.prog 14 #[v] w' fun e w'' => ∃ qa qc, e = .returned (.tuple #[.agg (encR (.slice qa (dpH zs).length qc) (nd k a b c d)).toArray, .int .i64 (dpE zs)]) ∧ HsAt w'' (.slice qa (dpH zs).length qc) (dpH zs) ∧ Below w'.heap.size w' w'' := fun w' h1 h2 => dec_at h1 hl h2 hn
  obtain ⟨fp, hup⟩ := u_proof
  have HUP := hidden hup
  have HSP : Hid (∀ s', (Tryd.prog.info? 46).map (·.size) = some (encR s' (nd k a b c d)).toArray.size ∧ (encR (.slice none 0 0) (List.replicate 129 0)).toArray.size = (encR s' (nd k a b c d)).toArray.size) := fun s' => ⟨encR_sz _ _ hN.length, by simp [encR, hN.length]⟩
  have HSk : Hid ((Tryd.prog.info? 24).map (·.size) = some (B key).size) := by show _ = _; rw [B_size, hkey.1]; exact sz_path
  have HBh : Hid (Tryd.prog.built 23 [] = some (B z32)) := built_hash
  have HSU := hidden (hash_sz _ (vfT_length key zs k a b c d))
  have hUp : okD zs → ∀ w' s', HsAt w' s' (dpH zs) → Laid w' → Calls Tryd.prog 15 #[.agg (B key), .agg (encR s' (nd k a b c d)).toArray] w' fun e w'' => e = .returned (.tuple #[.agg (B (vfT key zs k a b c d)), .int .i64 0]) ∧ Below w'.heap.size w' w'' := fun ho w' s' h1 h2 => by
    have hg := okD_end hb ho hn hN
    have := up_any key s' (dpH zs) k a b c d w' hkey h1 hN h2
    unfold UpPost at this
    rw [upE_good dp_len hg.1 hg.2] at this
    rwa [vfT, if_pos ho]
  obtain ⟨va, vc, rfl, _⟩ := h
  obtain ⟨l, hll⟩ : ∃ l, l = zs.length := ⟨_, rfl⟩
  rw [← hll] at KV hDe ⊢
  by_cases ho : okD zs
  · have HE : dpE zs = 0 := by rw [dpE, if_pos ho]
    rw [HE] at hDe ⊢
    have HUp := hidden (hUp ho)
    have HDe := hidden hDe
    clear hDe hUp hll hl hn hN hup hL hkey HE ho hb
    generalize vfT key zs k a b c d = U at *
    generalize dpH zs = HH at *
    obtain ⟨n, hnn⟩ : ∃ n, n = HH.length := ⟨_, rfl⟩
    rw [← hnn] at HDe
    clear hnn
    generalize nd k a b c d = N at *
    go_enter Tryd.func5, Tryd.ntmps5
    go_wp2_with (first
      | ((with_reducible refine at_bxd 2 ?_); refine wpList_bx _ rfl _ _ rfl _ rfl ?_; intro x1 g2 hg1 hl1 bq1 q1; replace KV := hidden (KV.out.step q1); replace KW := hidden (KW.out.step q1); replace KL := hidden (KL.out.step q1); have K2 := hidden bq1.kp; clear hg1 hl1 bq1 q1)
      | ((with_reducible refine at_ald 4 ?_); refine wpList_al _ rfl _ rfl _ zero_hash ?_; intro x2 g4 hg4 hl4 B4 q2; have HG4 : Hid (w.heap.size ≤ g4) := Nat.le_trans KW.out.now.size hg4; replace KV := hidden (KV.out.step q2); replace KW := hidden (KW.out.step q2); replace KL := hidden (KL.out.step q2); replace K2 := hidden (K2.out.step q2); have K4 := hidden B4.kp; clear hg4 hl4 B4 q2)
      | ((with_reducible refine at_ald 6 ?_); refine wpList_al _ rfl _ rfl _ zero_proof ?_; intro x4 g6 hg6 hl4 bq4 q4; clear hl4)
      | ((with_reducible refine at_st 6 ?_); refine wpList_sto _ rfl _ _ _ rfl g6 _ ((encR (.slice qa n qc) N).toArray) rfl rfl bq4 (HSP.out _).1 (HSP.out _).2 (encR_one _ _ _ _) ?_; intro x5 by5 r5; have q5 := below_row q4 r5 hg6; replace KV := hidden (KV.out.step q5); replace KW := hidden (KW.out.step q5); replace KL := hidden (KL.out.step q5); replace K2 := hidden (K2.out.step q5); replace K4 := hidden (K4.out.step q5); replace KQ := hidden (KQ.out.step q5); have K6 := hidden by5.kp; clear q5 q4 r5 by5 bq4 hg6)
      | ((with_reducible refine at_ldd 17 2 ?_); refine wpList_ld _ rfl _ _ rfl g2 _ rfl K2.out.now _ _ Tryd.underlying24 HSk.out ?_)
      | ((with_reducible refine at_ldd 18 6 ?_); refine wpList_lds _ rfl _ _ rfl g6 _ _ rfl K6.out.now HUP.out (HSP.out _).1 ?_)
      | ((with_reducible refine at_st 4 ?_); refine wpList_sto _ rfl _ _ _ rfl g4 _ (B U) rfl rfl K4.out.now HSU.out.1 HSU.out.2 (B_one _) ?_; intro yz Bz rz)
      | (go_at_call 15; refine (HUp.out _ _ KQ.out.now KL.out.now).mono ?_; rintro e x6 ⟨rfl, q6⟩; replace KV := hidden (KV.out.step q6); replace KW := hidden (KW.out.step q6); replace KL := hidden (KL.out.step q6); replace K2 := hidden (K2.out.step q6); replace K4 := hidden (K4.out.step q6); replace KQ := hidden (KQ.out.step q6); replace K6 := hidden (K6.out.step q6); have mk_fnodeUp_1 : Hid True := trivial; clear q6)
      | (go_at_call 14; refine (HDe.out _ KV.out.now KL.out.now).mono ?_; rintro e x3 ⟨qa, qc, rfl, hq, q3⟩; replace KV := hidden (KV.out.step q3); replace KW := hidden (KW.out.step q3); replace KL := hidden (KL.out.step q3); replace K2 := hidden (K2.out.step q3); replace K4 := hidden (K4.out.step q3); have KQ := hidden hq.kp; clear hq; have mk_fpackDecode_1 : Hid True := trivial; clear q3))
    exact bodyPost_ret (v := .tuple #[.agg (B U), .int .i64 0]) (results_row_tmp rfl _ _ g4 _ _ _ _ rfl rfl Bz Tryd.underlying23 HSU.out.1) rfl ⟨rfl, below_row KW.out.now rz HG4.out⟩
  · have HE : dpE zs = 10 := by rw [dpE, if_neg ho]
    have hT : vfT key zs k a b c d = z32 := by rw [vfT, if_neg ho]
    rw [HE] at hDe ⊢
    rw [hT] at HSU ⊢
    have HDe := hidden hDe
    clear hDe hUp hll hl hn hN hup hL hkey HE ho hb hT
    generalize dpH zs = HH at *
    obtain ⟨n, hnn⟩ : ∃ n, n = HH.length := ⟨_, rfl⟩
    rw [← hnn] at HDe
    clear hnn
    generalize nd k a b c d = N at *
    go_enter Tryd.func5, Tryd.ntmps5
    go_wp2_with (first
      | ((with_reducible refine at_bxd 2 ?_); refine wpList_bx _ rfl _ _ rfl _ rfl ?_; intro x1 g2 hg1 hl1 bq1 q1; replace KV := hidden (KV.out.step q1); replace KW := hidden (KW.out.step q1); replace KL := hidden (KL.out.step q1); have K2 := hidden bq1.kp; clear hg1 hl1 bq1 q1)
      | ((with_reducible refine at_ald 4 ?_); refine wpList_al _ rfl _ rfl _ zero_hash ?_; intro x2 g4 hg4 hl4 B4 q2; have HG4 : Hid (w.heap.size ≤ g4) := Nat.le_trans KW.out.now.size hg4; replace KV := hidden (KV.out.step q2); replace KW := hidden (KW.out.step q2); replace KL := hidden (KL.out.step q2); replace K2 := hidden (K2.out.step q2); have K4 := hidden B4.kp; clear hg4 hl4 B4 q2)
      | ((with_reducible refine at_ald 6 ?_); refine wpList_al _ rfl _ rfl _ zero_proof ?_; intro x4 g6 hg6 hl4 bq4 q4; clear hl4)
      | ((with_reducible refine at_st 6 ?_); refine wpList_sto _ rfl _ _ _ rfl g6 _ ((encR (.slice qa n qc) N).toArray) rfl rfl bq4 (HSP.out _).1 (HSP.out _).2 (encR_one _ _ _ _) ?_; intro x5 by5 r5; have q5 := below_row q4 r5 hg6; replace KV := hidden (KV.out.step q5); replace KW := hidden (KW.out.step q5); replace KL := hidden (KL.out.step q5); replace K2 := hidden (K2.out.step q5); replace K4 := hidden (K4.out.step q5); replace KQ := hidden (KQ.out.step q5); have K6 := hidden by5.kp; clear q5 q4 r5 by5 bq4 hg6)
      | ((with_reducible refine at_bdd 15 ?_); refine wpList_bld _ rfl _ _ rfl _ (by rw [List.map_toArray]; exact HBh.out) ?_)
      | ((with_reducible refine at_st 4 ?_); refine wpList_sto _ rfl _ _ _ rfl g4 _ (B z32) rfl rfl K4.out.now HSU.out.1 rfl (B_one _) ?_; intro yz Bz rz)
      | (go_at_call 14; refine (HDe.out _ KV.out.now KL.out.now).mono ?_; rintro e x3 ⟨qa, qc, rfl, hq, q3⟩; replace KV := hidden (KV.out.step q3); replace KW := hidden (KW.out.step q3); replace KL := hidden (KL.out.step q3); replace K2 := hidden (K2.out.step q3); replace K4 := hidden (K4.out.step q3); have KQ := hidden hq.kp; clear hq; have mk_fpackDecode_1 : Hid True := trivial; clear q3))
    exact bodyPost_ret (v := .tuple #[.agg (B z32), .int .i64 10]) (results_row_tmp rfl _ _ g4 _ _ _ _ rfl rfl Bz Tryd.underlying23 HSU.out.1) rfl ⟨rfl, below_row KW.out.now rz HG4.out⟩

set_option maxHeartbeats 4000000 in
theorem vabsent_any (root key : List Int) (v : Value) (zs : List Int) (k : Int) (a b c d : List Int) (w : World) (hroot : Key root) (hkey : Key key) (h : Reads w v zs) (hl : zs.length ≤ 140737488355328) (hL : Laid w) (hn : dpN zs = nd k a b c d) (hN : Nd k a b c d) :
    Calls Tryd.prog 11 #[.agg (B root), .agg (B key), v] w fun e w' => e = .returned (.bool (abB root key zs k a b c d)) ∧ Below w.heap.size w w' := by
  have KV := hidden h.kp
  have KW := hidden (below_kp w)
  have KL := hidden hL.kp
  have HRe : Hid (∀ w', Reads w' v zs → Laid w' → Calls Tryd.prog 7 #[.agg (B root), .agg (B key), v] w' fun e w'' => e = .returned (.tuple #[.agg (sdP (rdB root key zs k a b c d) (rdV root key zs k a b c d)).toArray, .int .i64 (rdE root key zs k a b c d)]) ∧ Below w'.heap.size w' w'') := fun w' h1 h2 => vread_any root key v zs k a b c d w' hroot hkey h1 hl h2 hn hN
  have HSr := hidden (hash_sz root hroot.1)
  have HSk : Hid ((Tryd.prog.info? 24).map (·.size) = some (B key).size) := by show _ = _; rw [B_size, hkey.1]; exact sz_path
  have HSD := hidden (said_sz (rdB root key zs k a b c d) (rdV root key zs k a b c d) (rdV_length root key zs k a b c d hN.lb))
  have HOn := hidden (said_one (rdB root key zs k a b c d) (rdV root key zs k a b c d))
  have HTh : Hid (∀ w g t, Blk w g t (sdP (rdB root key zs k a b c d) (rdV root key zs k a b c d)).toArray → w.cell? ⟨g, 0, none⟩ = some (.bool (rdB root key zs k a b c d))) := fun w g t h => said_there h
  obtain ⟨va, vc, rfl, _⟩ := h
  obtain ⟨l, hll⟩ : ∃ l, l = zs.length := ⟨_, rfl⟩
  rw [← hll] at KV HRe ⊢
  unfold abB
  generalize (sdP (rdB root key zs k a b c d) (rdV root key zs k a b c d)).toArray = SD at *
  generalize rdB root key zs k a b c d = T at *
  generalize rdE root key zs k a b c d = E at *
  clear hll hl hn hN hL hroot hkey
  by_cases hE : E = 0
  · subst hE
    have zE : ((0 : Int) == 0) = true := rfl
    rw [decide_eq_true rfl, Bool.true_and]
    go_enter Tryd.func11, Tryd.ntmps11
    go_wp2_with (first
      | ((with_reducible refine at_bxd 3 ?_); refine wpList_bx _ rfl _ _ rfl _ rfl ?_; intro x1 g3 hg1 hl1 bq1 q1; replace KV := hidden (KV.out.step q1); replace KW := hidden (KW.out.step q1); replace KL := hidden (KL.out.step q1); have K3 := hidden bq1.kp; clear hg1 hl1 bq1 q1)
      | ((with_reducible refine at_bxd 4 ?_); refine wpList_bx _ rfl _ _ rfl _ rfl ?_; intro x2 g4 hg2 hl2 bq2 q2; replace KV := hidden (KV.out.step q2); replace KW := hidden (KW.out.step q2); replace KL := hidden (KL.out.step q2); replace K3 := hidden (K3.out.step q2); have K4 := hidden bq2.kp; clear hg2 hl2 bq2 q2)
      | ((with_reducible refine at_ldd 10 3 ?_); refine wpList_ld _ rfl _ _ rfl g3 _ rfl K3.out.now _ _ Tryd.underlying23 HSr.out.1 ?_)
      | ((with_reducible refine at_ldd 11 4 ?_); refine wpList_ld _ rfl _ _ rfl g4 _ rfl K4.out.now _ _ Tryd.underlying24 HSk.out ?_)
      | ((with_reducible refine at_ald 7 ?_); refine wpList_al _ rfl _ rfl _ zero_said ?_; intro x4 g7 hg7 hl4 bq4 q4; clear hl4)
      | ((with_reducible refine at_st 7 ?_); refine wpList_sto _ rfl _ _ _ rfl g7 _ (SD) rfl rfl bq4 HSD.out.1 HSD.out.2 HOn.out ?_; intro x5 by5 r5; have q5 := below_row q4 r5 hg7; replace KV := hidden (KV.out.step q5); replace KW := hidden (KW.out.step q5); replace KL := hidden (KL.out.step q5); replace K3 := hidden (K3.out.step q5); replace K4 := hidden (K4.out.step q5); have K7 := hidden by5.kp; have c7 := HTh.out _ _ _ K7.out.now; clear q5 q4 r5 by5 bq4 hg7)
      | (go_at_call 7; refine (HRe.out _ KV.out.now KL.out.now).mono ?_; rintro e x3 ⟨rfl, q3⟩; replace KV := hidden (KV.out.step q3); replace KW := hidden (KW.out.step q3); replace KL := hidden (KL.out.step q3); replace K3 := hidden (K3.out.step q3); replace K4 := hidden (K4.out.step q3); have mk_fverifyRead_1 : Hid True := trivial; clear q3))
    go_ret
    exact ⟨rfl, KW.out.now⟩
  · have zE : (E == 0) = false := by simp [hE]
    rw [decide_eq_false hE, Bool.false_and]
    clear hE
    go_enter Tryd.func11, Tryd.ntmps11
    go_wp2_with (first
      | ((with_reducible refine at_bxd 3 ?_); refine wpList_bx _ rfl _ _ rfl _ rfl ?_; intro x1 g3 hg1 hl1 bq1 q1; replace KV := hidden (KV.out.step q1); replace KW := hidden (KW.out.step q1); replace KL := hidden (KL.out.step q1); have K3 := hidden bq1.kp; clear hg1 hl1 bq1 q1)
      | ((with_reducible refine at_bxd 4 ?_); refine wpList_bx _ rfl _ _ rfl _ rfl ?_; intro x2 g4 hg2 hl2 bq2 q2; replace KV := hidden (KV.out.step q2); replace KW := hidden (KW.out.step q2); replace KL := hidden (KL.out.step q2); replace K3 := hidden (K3.out.step q2); have K4 := hidden bq2.kp; clear hg2 hl2 bq2 q2)
      | ((with_reducible refine at_ldd 10 3 ?_); refine wpList_ld _ rfl _ _ rfl g3 _ rfl K3.out.now _ _ Tryd.underlying23 HSr.out.1 ?_)
      | ((with_reducible refine at_ldd 11 4 ?_); refine wpList_ld _ rfl _ _ rfl g4 _ rfl K4.out.now _ _ Tryd.underlying24 HSk.out ?_)
      | ((with_reducible refine at_ald 7 ?_); refine wpList_al _ rfl _ rfl _ zero_said ?_; intro x4 g7 hg7 hl4 bq4 q4; clear hl4)
      | ((with_reducible refine at_st 7 ?_); refine wpList_sto _ rfl _ _ _ rfl g7 _ (SD) rfl rfl bq4 HSD.out.1 HSD.out.2 HOn.out ?_; intro x5 by5 r5; have q5 := below_row q4 r5 hg7; replace KV := hidden (KV.out.step q5); replace KW := hidden (KW.out.step q5); replace KL := hidden (KL.out.step q5); replace K3 := hidden (K3.out.step q5); replace K4 := hidden (K4.out.step q5); have K7 := hidden by5.kp; have c7 := HTh.out _ _ _ K7.out.now; clear q5 q4 r5 by5 bq4 hg7)
      | (go_at_call 7; refine (HRe.out _ KV.out.now KL.out.now).mono ?_; rintro e x3 ⟨rfl, q3⟩; replace KV := hidden (KV.out.step q3); replace KW := hidden (KW.out.step q3); replace KL := hidden (KL.out.step q3); replace K3 := hidden (K3.out.step q3); replace K4 := hidden (K4.out.step q3); have mk_fverifyRead_1 : Hid True := trivial; clear q3))
    go_ret
    exact ⟨rfl, KW.out.now⟩

set_option maxHeartbeats 8000000 in
theorem vpresent_any (root key : List Int) (u v : Value) (ys zs : List Int) (k : Int) (a b c d : List Int) (w : World) (hroot : Key root) (hkey : Key key) (hu : Reads w u ys) (h : Reads w v zs) (hl : zs.length ≤ 140737488355328) (hL : Laid w) (hn : dpN zs = nd k a b c d) (hN : Nd k a b c d) :
    Calls Tryd.prog 9 #[.agg (B root), .agg (B key), u, v] w fun e w' => e = .returned (.bool (psB root key ys zs k a b c d)) ∧ Below w.heap.size w w' := by
  have KU := hidden hu.kp
  have KV := hidden h.kp
  have KW := hidden (below_kp w)
  have KL := hidden hL.kp
  have HRe : Hid (∀ w', Reads w' v zs → Laid w' → Calls Tryd.prog 7 #[.agg (B root), .agg (B key), v] w' fun e w'' => e = .returned (.tuple #[.agg (sdP (rdB root key zs k a b c d) (rdV root key zs k a b c d)).toArray, .int .i64 (rdE root key zs k a b c d)]) ∧ Below w'.heap.size w' w'') := fun w' h1 h2 => vread_any root key v zs k a b c d w' hroot hkey h1 hl h2 hn hN
  have hVa : ys.length ≤ 1024 → ∀ w', Reads w' u ys → Laid w' → Calls Tryd.prog 21 #[u] w' fun e w'' => e = .returned (.agg (B (vaD ys))) ∧ Below w'.heap.size w' w'' := fun h0 w' h1 h2 => value_any u ys w' h1 h2 (by omega)
  have HSr := hidden (hash_sz root hroot.1)
  have HSk : Hid ((Tryd.prog.info? 24).map (·.size) = some (B key).size) := by show _ = _; rw [B_size, hkey.1]; exact sz_path
  obtain ⟨fs, hus⟩ := u_said
  have HUS := hidden hus
  have hvl := rdV_length root key zs k a b c d hN.lb
  have hdl : (vaD ys).length = 32 := dig_length _
  have HSD := hidden (said_sz (rdB root key zs k a b c d) (rdV root key zs k a b c d) hvl)
  have HOn := hidden (said_one (rdB root key zs k a b c d) (rdV root key zs k a b c d))
  have HBV : Hid (Tryd.prog.built 34 [(0, .bool true), (1, .agg (B (vaD ys)))] = some (sdP true (vaD ys)).toArray) := built_said _ hdl
  have hqS : ∀ w, (Op.equalIn 10000 34 (.agg (sdP (rdB root key zs k a b c d) (rdV root key zs k a b c d)).toArray) (.agg (sdP true (vaD ys)).toArray)).run Tryd.prog w = .ok (rdB root key zs k a b c d && decide (rdV root key zs k a b c d = vaD ys)) w := fun w => by
    rw [said_eq hvl hdl w]
    cases rdB root key zs k a b c d <;> rfl
  have hE0 : rdE root key zs k a b c d ≠ 0 → rdB root key zs k a b c d = false := rdB_ok
  obtain ⟨va, vc, rfl, _⟩ := h
  obtain ⟨ua, uc, rfl, _⟩ := hu
  obtain ⟨l, hll⟩ : ∃ l, l = zs.length := ⟨_, rfl⟩
  obtain ⟨m, hmm⟩ : ∃ m, m = ys.length := ⟨_, rfl⟩
  rw [← hll] at KV HRe ⊢
  unfold psB
  rw [← hmm] at KU hVa ⊢
  generalize (sdP true (vaD ys)).toArray = SV at *
  generalize vaD ys = D at *
  generalize (sdP (rdB root key zs k a b c d) (rdV root key zs k a b c d)).toArray = SD at *
  generalize hR : (rdB root key zs k a b c d && decide (rdV root key zs k a b c d = D)) = R at *
  by_cases hm : m ≤ 1024
  · have z1 : ¬ (1024 : Int) < (m : Int) := by omega
    rw [decide_eq_true hm, Bool.true_and]
    have HVa := hidden (hVa hm)
    generalize hE : rdE root key zs k a b c d = E at *
    clear hll hl hn hN hL hroot hkey hmm hm hVa hus hvl hdl
    by_cases h0 : E = 0
    · subst h0
      have zE : ((0 : Int) == 0) = true := rfl
      clear hE hR hE0
      go_enter Tryd.func9, Tryd.ntmps9
      go_wp2_with (first
        | ((with_reducible refine at_bxd 4 ?_); refine wpList_bx _ rfl _ _ rfl _ rfl ?_; intro x1 g4 hg1 hl1 bq1 q1; replace KU := hidden (KU.out.step q1); replace KV := hidden (KV.out.step q1); replace KW := hidden (KW.out.step q1); replace KL := hidden (KL.out.step q1); have K4 := hidden bq1.kp; clear hg1 hl1 bq1 q1)
        | ((with_reducible refine at_bxd 5 ?_); refine wpList_bx _ rfl _ _ rfl _ rfl ?_; intro x2 g5 hg2 hl2 bq2 q2; replace KU := hidden (KU.out.step q2); replace KV := hidden (KV.out.step q2); replace KW := hidden (KW.out.step q2); replace KL := hidden (KL.out.step q2); replace K4 := hidden (K4.out.step q2); have K5 := hidden bq2.kp; clear hg2 hl2 bq2 q2)
        | ((with_reducible refine at_ldd 15 4 ?_); refine wpList_ld _ rfl _ _ rfl g4 _ rfl K4.out.now _ _ Tryd.underlying23 HSr.out.1 ?_)
        | ((with_reducible refine at_ldd 16 5 ?_); refine wpList_ld _ rfl _ _ rfl g5 _ rfl K5.out.now _ _ Tryd.underlying24 HSk.out ?_)
        | ((with_reducible refine at_ald 9 ?_); refine wpList_al _ rfl _ rfl _ zero_said ?_; intro x4 g9 hg9 hl4 bq4 q4; clear hl4)
        | ((with_reducible refine at_st 9 ?_); refine wpList_sto _ rfl _ _ _ rfl g9 _ (SD) rfl rfl bq4 HSD.out.1 HSD.out.2 HOn.out ?_; intro x5 by5 r5; have q5 := below_row q4 r5 hg9; replace KU := hidden (KU.out.step q5); replace KV := hidden (KV.out.step q5); replace KW := hidden (KW.out.step q5); replace KL := hidden (KL.out.step q5); replace K4 := hidden (K4.out.step q5); replace K5 := hidden (K5.out.step q5); have K9 := hidden by5.kp; clear q5 q4 r5 by5 bq4 hg9)
        | (go_at_call 7; refine (HRe.out _ KV.out.now KL.out.now).mono ?_; rintro e x3 ⟨rfl, q3⟩; replace KU := hidden (KU.out.step q3); replace KV := hidden (KV.out.step q3); replace KW := hidden (KW.out.step q3); replace KL := hidden (KL.out.step q3); replace K4 := hidden (K4.out.step q3); replace K5 := hidden (K5.out.step q3); have mk_fverifyRead_1 : Hid True := trivial; clear q3))
      refine wp_region_held_drew (S := fun w' => Below x5.heap.size x5 w') (by kernel_rfl) (below_drewN (Below.refl _ _) 1) (fun hHeld => ?_)
      refine wpAnyH_take (i := 0) (v := .int .i64 0) rfl (by kernel_rfl) (by kernel_rfl) (by kernel_rfl) (fun _ _ _ h => h) (Or.inl ⟨by rfl, fun w hS => by go_simp⟩) hHeld ?_
      simp only [Act.put, List.getElem_toArray, List.getElem_cons_zero, List.setIfInBounds_toArray, List.set_cons_zero, List.set_cons_succ]
      refine wpAnyH_take (i := 1) (v := .bool true) rfl (by kernel_rfl) (by kernel_rfl) (by kernel_rfl) (fun _ _ _ h => h) (Or.inl ⟨by rfl, fun w hS => by go_simp⟩) hHeld ?_
      simp only [Act.put, List.getElem_toArray, List.getElem_cons_zero, List.getElem_cons_succ, List.setIfInBounds_toArray, List.set_cons_zero, List.set_cons_succ]
      refine wpAnyH_take (i := 2) (v := .bool true) rfl (by kernel_rfl) (by kernel_rfl) (by kernel_rfl) (fun _ _ _ h => h) (Or.inl ⟨by rfl, fun w hS => by go_simp⟩) hHeld ?_
      simp only [Act.put, List.getElem_toArray, List.getElem_cons_zero, List.getElem_cons_succ, List.setIfInBounds_toArray, List.set_cons_zero, List.set_cons_succ]
      refine wpAnyH_take (i := 3) (v := .agg SD) rfl (by kernel_rfl) (by kernel_rfl) (by kernel_rfl) (fun _ _ _ h => h) (yieldsIf_load_mid rfl 34 (.tmp 9) rfl g9 0 rfl SD.toList _ (fun w hS => (K9.out _ hS).range) HUS.out rfl (by rw [Array.length_toList]; exact HSD.out.1)) hHeld ?_
      simp only [Act.put, List.getElem_toArray, List.getElem_cons_zero, List.getElem_cons_succ, List.setIfInBounds_toArray, List.set_cons_zero, List.set_cons_succ]
      refine wpAnyH_take (i := 4) (v := .slice ua m uc) rfl (by kernel_rfl) (by kernel_rfl) (by kernel_rfl) (fun _ _ _ h => h) (Or.inl ⟨by rfl, fun w hS => by go_simp⟩) hHeld ?_
      simp only [Act.put, List.getElem_toArray, List.getElem_cons_zero, List.getElem_cons_succ, List.setIfInBounds_toArray, List.set_cons_zero, List.set_cons_succ]
      refine wpAnyH_ready (rs := [5]) (by kernel_rfl) (by simp) ?_
      refine AllReadyH.cons rfl (fun KQ hK => ?_) AllReadyH.nil
      go_simp
      refine (HVa.out _ (KU.out _ hHeld) (KL.out _ hHeld)).mono ?_
      rintro e y1 ⟨rfl, a1⟩
      refine hK.out _ _ (grow_trans hHeld a1) (fun hHeld => ?_)
      clear hK KQ
      refine wpAnyH_take (i := 6) (v := .agg SV) rfl (by kernel_rfl) (by kernel_rfl) (by kernel_rfl) (fun _ _ _ h => h) (Or.inl ⟨by rfl, fun w hS => exec_bd _ _ 34 _ (by rfl) _ (by rw [List.map_toArray]; exact HBV.out) w⟩) hHeld ?_
      simp only [Act.put, List.getElem_toArray, List.getElem_cons_zero, List.getElem_cons_succ, List.setIfInBounds_toArray, List.set_cons_zero, List.set_cons_succ]
      refine wpAnyH_take (i := 7) (v := .bool R) rfl (by kernel_rfl) (by kernel_rfl) (by kernel_rfl) (fun _ _ _ h => h) (Or.inl ⟨by rfl, fun w hS => by go_simp⟩) hHeld ?_
      simp only [Act.put, List.getElem_toArray, List.getElem_cons_zero, List.getElem_cons_succ, List.setIfInBounds_toArray, List.set_cons_zero, List.set_cons_succ]
      refine wpAnyH_take (i := 8) (v := .bool R) rfl (by kernel_rfl) (by kernel_rfl) (by kernel_rfl) (fun _ _ _ h => h) (Or.inl ⟨by rfl, fun w hS => by go_simp⟩) hHeld ?_
      simp only [Act.put, List.getElem_toArray, List.getElem_cons_zero, List.getElem_cons_succ, List.setIfInBounds_toArray, List.set_cons_zero, List.set_cons_succ]
      refine wpAnyH_take (i := 9) (v := .bool R) rfl (by kernel_rfl) (by kernel_rfl) (by kernel_rfl) (fun _ _ _ h => h) (Or.inl ⟨by rfl, fun w hS => by go_simp⟩) hHeld ?_
      simp only [Act.put, List.getElem_toArray, List.getElem_cons_zero, List.getElem_cons_succ, List.setIfInBounds_toArray, List.set_cons_zero, List.set_cons_succ]
      refine wpAnyH_done (by kernel_rfl) ?_ _
      go_wp2
      go_ret
      exact ⟨rfl, (KW.out.step hHeld).now⟩
    · have hR0 : R = false := by rw [← hR, hE0 h0, Bool.false_and]
      have zE : (E == 0) = false := by simp [h0]
      subst hR0
      clear hE hR hE0 h0
      go_enter Tryd.func9, Tryd.ntmps9
      go_wp2_with (first
        | ((with_reducible refine at_bxd 4 ?_); refine wpList_bx _ rfl _ _ rfl _ rfl ?_; intro x1 g4 hg1 hl1 bq1 q1; replace KU := hidden (KU.out.step q1); replace KV := hidden (KV.out.step q1); replace KW := hidden (KW.out.step q1); replace KL := hidden (KL.out.step q1); have K4 := hidden bq1.kp; clear hg1 hl1 bq1 q1)
        | ((with_reducible refine at_bxd 5 ?_); refine wpList_bx _ rfl _ _ rfl _ rfl ?_; intro x2 g5 hg2 hl2 bq2 q2; replace KU := hidden (KU.out.step q2); replace KV := hidden (KV.out.step q2); replace KW := hidden (KW.out.step q2); replace KL := hidden (KL.out.step q2); replace K4 := hidden (K4.out.step q2); have K5 := hidden bq2.kp; clear hg2 hl2 bq2 q2)
        | ((with_reducible refine at_ldd 15 4 ?_); refine wpList_ld _ rfl _ _ rfl g4 _ rfl K4.out.now _ _ Tryd.underlying23 HSr.out.1 ?_)
        | ((with_reducible refine at_ldd 16 5 ?_); refine wpList_ld _ rfl _ _ rfl g5 _ rfl K5.out.now _ _ Tryd.underlying24 HSk.out ?_)
        | ((with_reducible refine at_ald 9 ?_); refine wpList_al _ rfl _ rfl _ zero_said ?_; intro x4 g9 hg9 hl4 bq4 q4; clear hl4)
        | ((with_reducible refine at_st 9 ?_); refine wpList_sto _ rfl _ _ _ rfl g9 _ (SD) rfl rfl bq4 HSD.out.1 HSD.out.2 HOn.out ?_; intro x5 by5 r5; have q5 := below_row q4 r5 hg9; replace KU := hidden (KU.out.step q5); replace KV := hidden (KV.out.step q5); replace KW := hidden (KW.out.step q5); replace KL := hidden (KL.out.step q5); replace K4 := hidden (K4.out.step q5); replace K5 := hidden (K5.out.step q5); have K9 := hidden by5.kp; clear q5 q4 r5 by5 bq4 hg9)
        | (go_at_call 7; refine (HRe.out _ KV.out.now KL.out.now).mono ?_; rintro e x3 ⟨rfl, q3⟩; replace KU := hidden (KU.out.step q3); replace KV := hidden (KV.out.step q3); replace KW := hidden (KW.out.step q3); replace KL := hidden (KL.out.step q3); replace K4 := hidden (K4.out.step q3); replace K5 := hidden (K5.out.step q3); have mk_fverifyRead_1 : Hid True := trivial; clear q3))
      refine wp_region_held_drew (S := fun w' => Below x5.heap.size x5 w') (by kernel_rfl) (below_drewN (Below.refl _ _) 1) (fun hHeld => ?_)
      refine wpAnyH_take (i := 0) (v := .int .i64 E) rfl (by kernel_rfl) (by kernel_rfl) (by kernel_rfl) (fun _ _ _ h => h) (Or.inl ⟨by rfl, fun w hS => by go_simp⟩) hHeld ?_
      simp only [Act.put, List.getElem_toArray, List.getElem_cons_zero, List.setIfInBounds_toArray, List.set_cons_zero, List.set_cons_succ]
      refine wpAnyH_take (i := 1) (v := .bool false) rfl (by kernel_rfl) (by kernel_rfl) (by kernel_rfl) (fun _ _ _ h => h) (Or.inl ⟨by rfl, fun w hS => by go_simp⟩) hHeld ?_
      simp only [Act.put, List.getElem_toArray, List.getElem_cons_zero, List.getElem_cons_succ, List.setIfInBounds_toArray, List.set_cons_zero, List.set_cons_succ]
      refine wpAnyH_take (i := 2) (v := .bool false) rfl (by kernel_rfl) (by kernel_rfl) (by kernel_rfl) (fun _ _ _ h => h) (Or.inl ⟨by rfl, fun w hS => by go_simp⟩) hHeld ?_
      simp only [Act.put, List.getElem_toArray, List.getElem_cons_zero, List.getElem_cons_succ, List.setIfInBounds_toArray, List.set_cons_zero, List.set_cons_succ]
      refine wpAnyH_take (i := 3) (v := undef) rfl (by kernel_rfl) (by kernel_rfl) (by kernel_rfl) (fun _ _ _ h => h) (Or.inr ⟨by rfl, rfl⟩) hHeld ?_
      simp only [Act.put, List.getElem_toArray, List.getElem_cons_zero, List.getElem_cons_succ, List.setIfInBounds_toArray, List.set_cons_zero, List.set_cons_succ]
      refine wpAnyH_take (i := 4) (v := undef) rfl (by kernel_rfl) (by kernel_rfl) (by kernel_rfl) (fun _ _ _ h => h) (Or.inr ⟨by rfl, rfl⟩) hHeld ?_
      simp only [Act.put, List.getElem_toArray, List.getElem_cons_zero, List.getElem_cons_succ, List.setIfInBounds_toArray, List.set_cons_zero, List.set_cons_succ]
      refine wpAnyH_take (i := 5) (v := undef) rfl (by kernel_rfl) (by kernel_rfl) (by kernel_rfl) (fun _ _ _ h => h) (Or.inr ⟨by rfl, rfl⟩) hHeld ?_
      simp only [Act.put, List.getElem_toArray, List.getElem_cons_zero, List.getElem_cons_succ, List.setIfInBounds_toArray, List.set_cons_zero, List.set_cons_succ]
      refine wpAnyH_take (i := 6) (v := undef) rfl (by kernel_rfl) (by kernel_rfl) (by kernel_rfl) (fun _ _ _ h => h) (Or.inr ⟨by rfl, rfl⟩) hHeld ?_
      simp only [Act.put, List.getElem_toArray, List.getElem_cons_zero, List.getElem_cons_succ, List.setIfInBounds_toArray, List.set_cons_zero, List.set_cons_succ]
      refine wpAnyH_take (i := 7) (v := undef) rfl (by kernel_rfl) (by kernel_rfl) (by kernel_rfl) (fun _ _ _ h => h) (Or.inr ⟨by rfl, rfl⟩) hHeld ?_
      simp only [Act.put, List.getElem_toArray, List.getElem_cons_zero, List.getElem_cons_succ, List.setIfInBounds_toArray, List.set_cons_zero, List.set_cons_succ]
      refine wpAnyH_take (i := 8) (v := .bool false) rfl (by kernel_rfl) (by kernel_rfl) (by kernel_rfl) (fun _ _ _ h => h) (Or.inl ⟨by rfl, fun w hS => by go_simp⟩) hHeld ?_
      simp only [Act.put, List.getElem_toArray, List.getElem_cons_zero, List.getElem_cons_succ, List.setIfInBounds_toArray, List.set_cons_zero, List.set_cons_succ]
      refine wpAnyH_take (i := 9) (v := .bool false) rfl (by kernel_rfl) (by kernel_rfl) (by kernel_rfl) (fun _ _ _ h => h) (Or.inl ⟨by rfl, fun w hS => by go_simp⟩) hHeld ?_
      simp only [Act.put, List.getElem_toArray, List.getElem_cons_zero, List.getElem_cons_succ, List.setIfInBounds_toArray, List.set_cons_zero, List.set_cons_succ]
      refine wpAnyH_done (by kernel_rfl) ?_ _
      go_wp2
      go_ret
      exact ⟨rfl, (KW.out.step hHeld).now⟩
  · have z1 : (1024 : Int) < (m : Int) := by omega
    rw [decide_eq_false hm, Bool.false_and]
    clear hll hl hn hN hL hroot hkey hmm hm hVa hus hvl hdl hE0 hR
    go_enter Tryd.func9, Tryd.ntmps9
    go_wp2_with (first
      | ((with_reducible refine at_bxd 4 ?_); refine wpList_bx _ rfl _ _ rfl _ rfl ?_; intro w1 g4 hg4 hl4 B4 b1)
      | ((with_reducible refine at_bxd 5 ?_); refine wpList_bx _ rfl _ _ rfl _ rfl ?_; intro w2 g5 hg5 hl5 B5 b2))
    go_ret
    exact ⟨rfl, grow_trans b1 b2⟩

end Go.Proofs.YtpihigcnoifcfaaDoor

/- The document's Top, Read, Present and Absent (rootcellarref18), as contracts: the same words. -/
namespace Go.Proofs.YtpihigcnoifcfaaDoor
set_option maxRecDepth 20000
open Go.RowKit

theorem rdec_at {v : Value} {zs : List Int} {w : World} (h : Reads w v zs) (hl : zs.length ≤ 140737488355328 - 4096) {N : List Int} (hn : dpN zs = N) :
    Calls Tryd.prog 16 #[v] w fun e w' => ∃ qa qc, e = .returned (.tuple #[.agg (encR (.slice qa (dpH zs).length qc) N).toArray, .int .i64 (dpE zs)]) ∧ HsAt w' (.slice qa (dpH zs).length qc) (dpH zs) ∧ Below w.heap.size w w' := by
  have hb : Bytes zs := by obtain ⟨_, _, _, _, _, hb, _⟩ := h; exact hb
  refine (rpdecode_any v zs w h hl).mono ?_
  rintro e w' ⟨a, c, h1, h2, h3⟩
  rw [hn] at h1
  exact ⟨a, c, h1, hsAt_own (base := w.heap.size) h2 (dp_dg hb), h3⟩

set_option maxHeartbeats 4000000 in
theorem rtop_any (key : List Int) (v : Value) (zs : List Int) (k : Int) (a b c d : List Int) (w : World) (hkey : Key key) (h : Reads w v zs) (hl : zs.length ≤ 140737488355328 - 4096) (hn : dpN zs = nd k a b c d) (hN : Nd k a b c d) :
    Calls Tryd.prog 6 #[.agg (B key), v] w fun e w' => e = .returned (.tuple #[.agg (B (vfT key zs k a b c d)), .int .i64 (dpE zs)]) ∧ Below w.heap.size w w' := by
  have hb : Bytes zs := by obtain ⟨_, _, _, _, _, hb, _⟩ := h; exact hb
  have KV := hidden h.kp
  have KW := hidden (below_kp w)
  have hDe : ∀ w', Reads w' v zs → Calls Tryd.prog 16 #[v] w' fun e w'' => ∃ qa qc, e = .returned (.tuple #[.agg (encR (.slice qa (dpH zs).length qc) (nd k a b c d)).toArray, .int .i64 (dpE zs)]) ∧ HsAt w'' (.slice qa (dpH zs).length qc) (dpH zs) ∧ Below w'.heap.size w' w'' := fun w' h1 => rdec_at h1 hl hn
  obtain ⟨fp, hup⟩ := u_proof
  have HUP := hidden hup
  have HSP : Hid (∀ s', (Tryd.prog.info? 46).map (·.size) = some (encR s' (nd k a b c d)).toArray.size ∧ (encR (.slice none 0 0) (List.replicate 129 0)).toArray.size = (encR s' (nd k a b c d)).toArray.size) := fun s' => ⟨encR_sz _ _ hN.length, by simp [encR, hN.length]⟩
  have HSk : Hid ((Tryd.prog.info? 24).map (·.size) = some (B key).size) := by show _ = _; rw [B_size, hkey.1]; exact sz_path
  have HBh : Hid (Tryd.prog.built 23 [] = some (B z32)) := built_hash
  have HSU := hidden (hash_sz _ (vfT_length key zs k a b c d))
  have hUp : okD zs → ∀ w' s', HsAt w' s' (dpH zs) → Calls Tryd.prog 17 #[.agg (B key), .agg (encR s' (nd k a b c d)).toArray] w' fun e w'' => e = .returned (.tuple #[.agg (B (vfT key zs k a b c d)), .int .i64 0]) ∧ Below w'.heap.size w' w'' := fun ho w' s' h1 => by
    have hg := okD_end hb ho hn hN
    have := rup_any key s' (dpH zs) k a b c d w' hkey h1 hN
    unfold UpPost at this
    rw [upE_good dp_len hg.1 hg.2] at this
    rwa [vfT, if_pos ho]
  obtain ⟨va, vc, rfl, _⟩ := h
  obtain ⟨l, hll⟩ : ∃ l, l = zs.length := ⟨_, rfl⟩
  rw [← hll] at KV hDe ⊢
  by_cases ho : okD zs
  · have HE : dpE zs = 0 := by rw [dpE, if_pos ho]
    rw [HE] at hDe ⊢
    have HUp := hidden (hUp ho)
    have HDe := hidden hDe
    clear hDe hUp hll hl hn hN hup hkey HE ho hb
    generalize vfT key zs k a b c d = U at *
    generalize dpH zs = HH at *
    obtain ⟨n, hnn⟩ : ∃ n, n = HH.length := ⟨_, rfl⟩
    rw [← hnn] at HDe
    clear hnn
    generalize nd k a b c d = N at *
    go_enter Tryd.func6, Tryd.ntmps6
    go_wp2_with (first
      | ((with_reducible refine at_bxd 2 ?_); refine wpList_bx _ rfl _ _ rfl _ rfl ?_; intro x1 g2 hg1 hl1 bq1 q1; replace KV := hidden (KV.out.step q1); replace KW := hidden (KW.out.step q1); have K2 := hidden bq1.kp; clear hg1 hl1 bq1 q1)
      | ((with_reducible refine at_ald 4 ?_); refine wpList_al _ rfl _ rfl _ zero_hash ?_; intro x2 g4 hg4 hl4 B4 q2; have HG4 : Hid (w.heap.size ≤ g4) := Nat.le_trans KW.out.now.size hg4; replace KV := hidden (KV.out.step q2); replace KW := hidden (KW.out.step q2); replace K2 := hidden (K2.out.step q2); have K4 := hidden B4.kp; clear hg4 hl4 B4 q2)
      | ((with_reducible refine at_ald 6 ?_); refine wpList_al _ rfl _ rfl _ zero_proof ?_; intro x4 g6 hg6 hl4 bq4 q4; clear hl4)
      | ((with_reducible refine at_st 6 ?_); refine wpList_sto _ rfl _ _ _ rfl g6 _ ((encR (.slice qa n qc) N).toArray) rfl rfl bq4 (HSP.out _).1 (HSP.out _).2 (encR_one _ _ _ _) ?_; intro x5 by5 r5; have q5 := below_row q4 r5 hg6; replace KV := hidden (KV.out.step q5); replace KW := hidden (KW.out.step q5); replace K2 := hidden (K2.out.step q5); replace K4 := hidden (K4.out.step q5); replace KQ := hidden (KQ.out.step q5); have K6 := hidden by5.kp; clear q5 q4 r5 by5 bq4 hg6)
      | ((with_reducible refine at_ldd 19 2 ?_); refine wpList_ld _ rfl _ _ rfl g2 _ rfl K2.out.now _ _ Tryd.underlying24 HSk.out ?_)
      | ((with_reducible refine at_ldd 20 6 ?_); refine wpList_lds _ rfl _ _ rfl g6 _ _ rfl K6.out.now HUP.out (HSP.out _).1 ?_)
      | ((with_reducible refine at_ald 8 ?_); refine wpList_al _ rfl _ rfl _ zero_hash ?_; intro x7 g8 hg8 hl7 bq7 q7; clear hl7)
      | ((with_reducible refine at_st 8 ?_); refine wpList_sto _ rfl _ _ _ rfl g8 _ ((B U)) rfl rfl bq7 HSU.out.1 HSU.out.2 (B_one _) ?_; intro x8 by8 r8; have q8 := below_row q7 r8 hg8; replace KV := hidden (KV.out.step q8); replace KW := hidden (KW.out.step q8); replace K2 := hidden (K2.out.step q8); replace K4 := hidden (K4.out.step q8); replace KQ := hidden (KQ.out.step q8); replace K6 := hidden (K6.out.step q8); have K8 := hidden by8.kp; clear q8 q7 r8 by8 bq7 hg8)
      | ((with_reducible refine at_ldd 24 8 ?_); refine wpList_ld _ rfl _ _ rfl g8 _ rfl K8.out.now _ _ Tryd.underlying23 HSU.out.1 ?_)
      | ((with_reducible refine at_st 4 ?_); refine wpList_sto _ rfl _ _ _ rfl g4 _ (B U) rfl rfl K4.out.now HSU.out.1 HSU.out.2 (B_one _) ?_; intro yz Bz rz)
      | (go_at_call 17; refine (HUp.out _ _ KQ.out.now).mono ?_; rintro e x6 ⟨rfl, q6⟩; replace KV := hidden (KV.out.step q6); replace KW := hidden (KW.out.step q6); replace K2 := hidden (K2.out.step q6); replace K4 := hidden (K4.out.step q6); replace KQ := hidden (KQ.out.step q6); replace K6 := hidden (K6.out.step q6); have mk_frootcellarref05Up_1 : Hid True := trivial; clear q6)
      | (go_at_call 16; refine (HDe.out _ KV.out.now).mono ?_; rintro e x3 ⟨qa, qc, rfl, hq, q3⟩; replace KV := hidden (KV.out.step q3); replace KW := hidden (KW.out.step q3); replace K2 := hidden (K2.out.step q3); replace K4 := hidden (K4.out.step q3); have KQ := hidden hq.kp; clear hq; have mk_frootcellarref17Decode_1 : Hid True := trivial; clear q3))
    exact bodyPost_ret (v := .tuple #[.agg (B U), .int .i64 0]) (results_row_tmp rfl _ _ g4 _ _ _ _ rfl rfl Bz Tryd.underlying23 HSU.out.1) rfl ⟨rfl, below_row KW.out.now rz HG4.out⟩
  · have HE : dpE zs = 10 := by rw [dpE, if_neg ho]
    have hT : vfT key zs k a b c d = z32 := by rw [vfT, if_neg ho]
    rw [HE] at hDe ⊢
    rw [hT] at HSU ⊢
    have HDe := hidden hDe
    clear hDe hUp hll hl hn hN hup hkey HE ho hb hT
    generalize dpH zs = HH at *
    obtain ⟨n, hnn⟩ : ∃ n, n = HH.length := ⟨_, rfl⟩
    rw [← hnn] at HDe
    clear hnn
    generalize nd k a b c d = N at *
    go_enter Tryd.func6, Tryd.ntmps6
    go_wp2_with (first
      | ((with_reducible refine at_bxd 2 ?_); refine wpList_bx _ rfl _ _ rfl _ rfl ?_; intro x1 g2 hg1 hl1 bq1 q1; replace KV := hidden (KV.out.step q1); replace KW := hidden (KW.out.step q1); have K2 := hidden bq1.kp; clear hg1 hl1 bq1 q1)
      | ((with_reducible refine at_ald 4 ?_); refine wpList_al _ rfl _ rfl _ zero_hash ?_; intro x2 g4 hg4 hl4 B4 q2; have HG4 : Hid (w.heap.size ≤ g4) := Nat.le_trans KW.out.now.size hg4; replace KV := hidden (KV.out.step q2); replace KW := hidden (KW.out.step q2); replace K2 := hidden (K2.out.step q2); have K4 := hidden B4.kp; clear hg4 hl4 B4 q2)
      | ((with_reducible refine at_ald 6 ?_); refine wpList_al _ rfl _ rfl _ zero_proof ?_; intro x4 g6 hg6 hl4 bq4 q4; clear hl4)
      | ((with_reducible refine at_st 6 ?_); refine wpList_sto _ rfl _ _ _ rfl g6 _ ((encR (.slice qa n qc) N).toArray) rfl rfl bq4 (HSP.out _).1 (HSP.out _).2 (encR_one _ _ _ _) ?_; intro x5 by5 r5; have q5 := below_row q4 r5 hg6; replace KV := hidden (KV.out.step q5); replace KW := hidden (KW.out.step q5); replace K2 := hidden (K2.out.step q5); replace K4 := hidden (K4.out.step q5); replace KQ := hidden (KQ.out.step q5); have K6 := hidden by5.kp; clear q5 q4 r5 by5 bq4 hg6)
      | ((with_reducible refine at_bdd 17 ?_); refine wpList_bld _ rfl _ _ rfl _ (by rw [List.map_toArray]; exact HBh.out) ?_)
      | ((with_reducible refine at_st 4 ?_); refine wpList_sto _ rfl _ _ _ rfl g4 _ (B z32) rfl rfl K4.out.now HSU.out.1 rfl (B_one _) ?_; intro yz Bz rz)
      | (go_at_call 16; refine (HDe.out _ KV.out.now).mono ?_; rintro e x3 ⟨qa, qc, rfl, hq, q3⟩; replace KV := hidden (KV.out.step q3); replace KW := hidden (KW.out.step q3); replace K2 := hidden (K2.out.step q3); replace K4 := hidden (K4.out.step q3); have KQ := hidden hq.kp; clear hq; have mk_frootcellarref17Decode_1 : Hid True := trivial; clear q3))
    exact bodyPost_ret (v := .tuple #[.agg (B z32), .int .i64 10]) (results_row_tmp rfl _ _ g4 _ _ _ _ rfl rfl Bz Tryd.underlying23 HSU.out.1) rfl ⟨rfl, below_row KW.out.now rz HG4.out⟩

set_option maxHeartbeats 8000000 in
theorem rsaid_any (root key : List Int) (v : Value) (zs : List Int) (k : Int) (a b c d : List Int) (w : World) (hroot : Key root) (hkey : Key key) (h : Reads w v zs) (hl : zs.length ≤ 140737488355328 - 4096) (hn : dpN zs = nd k a b c d) (hN : Nd k a b c d) :
    Calls Tryd.prog 8 #[.agg (B root), .agg (B key), v] w fun e w' => e = .returned (.tuple #[.agg (sdP (rdB root key zs k a b c d) (rdV root key zs k a b c d)).toArray, .int .i64 (rdE root key zs k a b c d)]) ∧ Below w.heap.size w w' := by
  have KV := hidden h.kp
  have KW := hidden (below_kp w)
  have hTp : ∀ w', Reads w' v zs → Calls Tryd.prog 6 #[.agg (B key), v] w' fun e w'' => e = .returned (.tuple #[.agg (B (vfT key zs k a b c d)), .int .i64 (dpE zs)]) ∧ Below w'.heap.size w' w'' := fun w' h1 => rtop_any key v zs k a b c d w' hkey h1 hl hn hN
  have hDe : ∀ w', Reads w' v zs → Calls Tryd.prog 16 #[v] w' fun e w'' => ∃ qa qc, e = .returned (.tuple #[.agg (encR (.slice qa (dpH zs).length qc) (nd k a b c d)).toArray, .int .i64 (dpE zs)]) ∧ HsAt w'' (.slice qa (dpH zs).length qc) (dpH zs) ∧ Below w'.heap.size w' w'' := fun w' h1 => rdec_at h1 hl hn
  have hUn : ∀ w', Calls Tryd.prog 20 #[.agg (B a), .agg (B key), .int .i64 ((dpH zs).length : Int)] w' fun e w'' => e = .returned (.bool (undB a key (dpH zs).length)) ∧ Below w'.heap.size w' w'' := fun w' => runder_at a key _ _ w' ⟨hN.la, hN.ba⟩ hkey (undB_iff _ _ _)
  have HK : Hid (∀ w g t s', Blk w g t (encR s' (nd k a b c d)).toArray → w.cell? ⟨g, 1, none⟩ = some (.int .u8 k)) := fun w g t s' h => proof_kind h
  have HR : Hid (∀ w g t s', Blk w g t (encR s' (nd k a b c d)).toArray → w.rangeAt g 2 (a.map (Value.int .u8))) := fun w g t s' h => end_part h hN.segA
  have HRb : Hid (∀ w g t s', Blk w g t (encR s' (nd k a b c d)).toArray → w.rangeAt g 34 (b.map (Value.int .u8))) := fun w g t s' h => end_part h hN.segB
  obtain ⟨fs, hus⟩ := u_said
  have HUS := hidden hus
  have HSP : Hid (∀ s', (Tryd.prog.info? 46).map (·.size) = some (encR s' (nd k a b c d)).toArray.size ∧ (encR (.slice none 0 0) (List.replicate 129 0)).toArray.size = (encR s' (nd k a b c d)).toArray.size) := fun s' => ⟨encR_sz _ _ hN.length, by simp [encR, hN.length]⟩
  have HS0 := hidden (said_sz false z32 rfl)
  have HS1 := hidden (said_sz true b hN.lb)
  have HB0 : Hid (Tryd.prog.built 34 [] = some (sdP false z32).toArray) := built_said0
  have HB1 : Hid (Tryd.prog.built 34 [(0, .bool true), (1, .agg (B b))] = some (sdP true b).toArray) := built_said b hN.lb
  have HSr := hidden (hash_sz root hroot.1)
  have HSU := hidden (hash_sz _ (vfT_length key zs k a b c d))
  have HSk : Hid ((Tryd.prog.info? 24).map (·.size) = some (B key).size) := by show _ = _; rw [B_size, hkey.1]; exact sz_path
  have HLa : Hid ((Tryd.prog.info? 24).map (·.size) = some a.length) := by show _ = _; rw [hN.la]; exact sz_path
  have HLb : Hid ((Tryd.prog.info? 23).map (·.size) = some b.length) := by show _ = _; rw [hN.lb]; exact sz_hash
  have hqH : ∀ w, (Op.equalIn 10000 23 (.agg (B (vfT key zs k a b c d))) (.agg (B root))).run Tryd.prog w = .ok (decide (vfT key zs k a b c d = root)) w := hash_eq _ root (vfT_length key zs k a b c d) hroot.1
  have hqK : ∀ w, (Op.equalIn 10000 24 (.agg (B a)) (.agg (B key))).run Tryd.prog w = .ok (decide (a = key)) w := path_eq a key hN.la hkey.1
  obtain ⟨va, vc, rfl, _⟩ := h
  obtain ⟨l, hll⟩ : ∃ l, l = zs.length := ⟨_, rfl⟩
  rw [← hll] at KV hTp hDe ⊢
  by_cases ho : okD zs
  · have HE : dpE zs = 0 := by rw [dpE, if_pos ho]
    have hT : vfT key zs k a b c d = upH key (dpH zs) k a b c d := by rw [vfT, if_pos ho]
    rw [HE] at hTp hDe
    have hself : a = key → undB a key (dpH zs).length = true := fun e => by rw [e]; exact undB_self _ _ dp_len
    obtain ⟨rB, hrB⟩ : ∃ x, x = rdB root key zs k a b c d := ⟨_, rfl⟩
    obtain ⟨rV, hrV⟩ : ∃ x, x = rdV root key zs k a b c d := ⟨_, rfl⟩
    obtain ⟨rE, hrE⟩ : ∃ x, x = rdE root key zs k a b c d := ⟨_, rfl⟩
    rw [← hrB, ← hrV, ← hrE]
    rw [rdV, ← hrB] at hrV
    rw [rdE, if_pos ho, vfA] at hrE
    rw [rdB, rdA, vfA, vfO, decide_eq_true ho, Bool.true_and] at hrB
    rw [← hT] at hrB hrE
    clear hT hll hl hn HE ho hus hkey hroot hN
    have HTp := hidden hTp
    have HDe := hidden hDe
    clear hTp hDe
    generalize vfT key zs k a b c d = U at *
    generalize dpH zs = HH at *
    generalize undB a key HH.length = u at *
    generalize decide (U = root) = r at *
    generalize hak : decide (a = key) = o at *
    obtain ⟨n, hnn⟩ : ∃ n, n = HH.length := ⟨_, rfl⟩
    rw [← hnn] at HDe hUn
    have HUn := hidden hUn
    clear hUn hnn
    have hou : o = true → u = true := fun e => hself (by rw [← hak] at e; exact of_decide_eq_true e)
    clear hself hak
    generalize nd k a b c d = N at *
    by_cases h1 : k = 1
    · have z1 : (k == 1) = true := by simp [h1]
      rw [decide_eq_true h1] at hrB hrE
      clear h1
      cases r with
      | false =>
        have e1 : rB = false := by rw [hrB]; simp
        have e2 : rV = z32 := by rw [hrV, e1]; rfl
        have e3 : rE = 11 := by rw [hrE]; simp
        subst e1 e2 e3
        clear hrB hrV hrE hou
        cases o with
        | false =>
          go_enter Tryd.func8, Tryd.ntmps8
          go_wp2_with (first
            | ((with_reducible refine at_bxd 3 ?_); refine wpList_bx _ rfl _ _ rfl _ rfl ?_; intro x1 g3 hg1 hl1 bq1 q1; replace KV := hidden (KV.out.step q1); replace KW := hidden (KW.out.step q1); have K3 := hidden bq1.kp; clear hg1 hl1 bq1 q1)
            | ((with_reducible refine at_bxd 4 ?_); refine wpList_bx _ rfl _ _ rfl _ rfl ?_; intro x2 g4 hg2 hl2 bq2 q2; replace KV := hidden (KV.out.step q2); replace KW := hidden (KW.out.step q2); replace K3 := hidden (K3.out.step q2); have K4 := hidden bq2.kp; clear hg2 hl2 bq2 q2)
            | ((with_reducible refine at_ald 6 ?_); refine wpList_al _ rfl _ rfl _ zero_said ?_; intro x3 g6 hg6 hl6 B6 q3; have HG6 : Hid (w.heap.size ≤ g6) := Nat.le_trans KW.out.now.size hg6; replace KV := hidden (KV.out.step q3); replace KW := hidden (KW.out.step q3); replace K3 := hidden (K3.out.step q3); replace K4 := hidden (K4.out.step q3); have K6 := hidden B6.kp; clear hg6 hl6 B6 q3)
            | ((with_reducible refine at_ldd 14 4 ?_); refine wpList_ld _ rfl _ _ rfl g4 _ rfl K4.out.now _ _ Tryd.underlying24 HSk.out ?_)
            | ((with_reducible refine at_ald 8 ?_); refine wpList_al _ rfl _ rfl _ zero_hash ?_; intro x5 g8 hg8 hl5 bq5 q5; clear hl5)
            | ((with_reducible refine at_st 8 ?_); refine wpList_sto _ rfl _ _ _ rfl g8 _ ((B U)) rfl rfl bq5 HSU.out.1 HSU.out.2 (B_one _) ?_; intro x6 by6 r6; have q6 := below_row q5 r6 hg8; replace KV := hidden (KV.out.step q6); replace KW := hidden (KW.out.step q6); replace K3 := hidden (K3.out.step q6); replace K4 := hidden (K4.out.step q6); replace K6 := hidden (K6.out.step q6); have K8 := hidden by6.kp; clear q6 q5 r6 by6 bq5 hg8)
            | ((with_reducible refine at_bdd 21 ?_); refine wpList_bld _ rfl _ _ rfl _ (by rw [List.map_toArray]; exact HB0.out) ?_)
            | ((with_reducible refine at_bdd 63 ?_); refine wpList_bld _ rfl _ _ rfl _ (by rw [List.map_toArray]; exact HB0.out) ?_)
            | ((with_reducible refine at_bdd 69 ?_); refine wpList_bld _ rfl _ _ rfl _ (by rw [List.map_toArray]; exact HB0.out) ?_)
            | ((with_reducible refine at_ald 10 ?_); refine wpList_al _ rfl _ rfl _ zero_proof ?_; intro x8 g10 hg10 hl8 bq8 q8; clear hl8)
            | ((with_reducible refine at_st 10 ?_); refine wpList_sto _ rfl _ _ _ rfl g10 _ ((encR (.slice qa n qc) N).toArray) rfl rfl bq8 (HSP.out _).1 (HSP.out _).2 (encR_one _ _ _ _) ?_; intro x9 by9 r9; have q9 := below_row q8 r9 hg10; replace KV := hidden (KV.out.step q9); replace KW := hidden (KW.out.step q9); replace K3 := hidden (K3.out.step q9); replace K4 := hidden (K4.out.step q9); replace K6 := hidden (K6.out.step q9); replace K8 := hidden (K8.out.step q9); have K10 := hidden by9.kp; have c10 := HK.out _ _ _ _ K10.out.now; have s10 := proof_side K10.out.now; clear q9 q8 r9 by9 bq8 hg10)
            | ((with_reducible refine at_ldd 35 34 ?_); refine wpList_ldw _ rfl _ _ rfl g10 2 a rfl (HR.out _ _ _ _ K10.out.now) _ _ Tryd.underlying24 HLa.out ?_)
            | ((with_reducible refine at_ldd 36 4 ?_); refine wpList_ldg _ rfl _ _ rfl g4 _ rfl K4.out.now _ _ Tryd.underlying24 HSk.out ?_)
            | ((with_reducible refine at_ldd 39 8 ?_); refine wpList_ld _ rfl _ _ rfl g8 _ rfl K8.out.now _ _ Tryd.underlying23 HSU.out.1 ?_)
            | ((with_reducible refine at_ldd 40 3 ?_); refine wpList_ld _ rfl _ _ rfl g3 _ rfl K3.out.now _ _ Tryd.underlying23 HSr.out.1 ?_)
            | ((with_reducible refine at_ldd 54 53 ?_); refine wpList_ldw _ rfl _ _ rfl g10 2 a rfl (HR.out _ _ _ _ K10.out.now) _ _ Tryd.underlying24 HLa.out ?_)
            | ((with_reducible refine at_ldd 55 4 ?_); refine wpList_ldg _ rfl _ _ rfl g4 _ rfl K4.out.now _ _ Tryd.underlying24 HSk.out ?_)
            | ((with_reducible refine at_st 6 ?_); refine wpList_sto _ rfl _ _ _ rfl g6 _ (sdP false z32).toArray rfl rfl K6.out.now HS0.out.1 rfl (said_one _ _) ?_; intro yz Bz rz)
            | (go_at_call 20; refine (HUn.out _).mono ?_; rintro e x10 ⟨rfl, q10⟩; replace KV := hidden (KV.out.step q10); replace KW := hidden (KW.out.step q10); replace K3 := hidden (K3.out.step q10); replace K4 := hidden (K4.out.step q10); replace K6 := hidden (K6.out.step q10); replace K8 := hidden (K8.out.step q10); replace K10 := hidden (K10.out.step q10); have mk_frootcellarref04Under_1 : Hid True := trivial; clear q10)
            | (go_at_call 16; refine (HDe.out _ KV.out.now).mono ?_; rintro e x7 ⟨qa, qc, rfl, hq, q7⟩; replace KV := hidden (KV.out.step q7); replace KW := hidden (KW.out.step q7); replace K3 := hidden (K3.out.step q7); replace K4 := hidden (K4.out.step q7); replace K6 := hidden (K6.out.step q7); replace K8 := hidden (K8.out.step q7); clear hq; have mk_frootcellarref17Decode_1 : Hid True := trivial; clear q7)
            | (go_at_call 6; refine (HTp.out _ KV.out.now).mono ?_; rintro e x4 ⟨rfl, q4⟩; replace KV := hidden (KV.out.step q4); replace KW := hidden (KW.out.step q4); replace K3 := hidden (K3.out.step q4); replace K4 := hidden (K4.out.step q4); replace K6 := hidden (K6.out.step q4); have mk_frootcellarref18Top_1 : Hid True := trivial; clear q4))
          exact bodyPost_ret (v := .tuple #[.agg (sdP false z32).toArray, .int .i64 11]) (results_agg_tmp rfl _ _ g6 _ _ rfl rfl Bz HUS.out HS0.out.1) rfl ⟨rfl, below_row KW.out.now rz HG6.out⟩
        | true =>
          go_enter Tryd.func8, Tryd.ntmps8
          go_wp2_with (first
            | ((with_reducible refine at_bxd 3 ?_); refine wpList_bx _ rfl _ _ rfl _ rfl ?_; intro x1 g3 hg1 hl1 bq1 q1; replace KV := hidden (KV.out.step q1); replace KW := hidden (KW.out.step q1); have K3 := hidden bq1.kp; clear hg1 hl1 bq1 q1)
            | ((with_reducible refine at_bxd 4 ?_); refine wpList_bx _ rfl _ _ rfl _ rfl ?_; intro x2 g4 hg2 hl2 bq2 q2; replace KV := hidden (KV.out.step q2); replace KW := hidden (KW.out.step q2); replace K3 := hidden (K3.out.step q2); have K4 := hidden bq2.kp; clear hg2 hl2 bq2 q2)
            | ((with_reducible refine at_ald 6 ?_); refine wpList_al _ rfl _ rfl _ zero_said ?_; intro x3 g6 hg6 hl6 B6 q3; have HG6 : Hid (w.heap.size ≤ g6) := Nat.le_trans KW.out.now.size hg6; replace KV := hidden (KV.out.step q3); replace KW := hidden (KW.out.step q3); replace K3 := hidden (K3.out.step q3); replace K4 := hidden (K4.out.step q3); have K6 := hidden B6.kp; clear hg6 hl6 B6 q3)
            | ((with_reducible refine at_ldd 14 4 ?_); refine wpList_ld _ rfl _ _ rfl g4 _ rfl K4.out.now _ _ Tryd.underlying24 HSk.out ?_)
            | ((with_reducible refine at_ald 8 ?_); refine wpList_al _ rfl _ rfl _ zero_hash ?_; intro x5 g8 hg8 hl5 bq5 q5; clear hl5)
            | ((with_reducible refine at_st 8 ?_); refine wpList_sto _ rfl _ _ _ rfl g8 _ ((B U)) rfl rfl bq5 HSU.out.1 HSU.out.2 (B_one _) ?_; intro x6 by6 r6; have q6 := below_row q5 r6 hg8; replace KV := hidden (KV.out.step q6); replace KW := hidden (KW.out.step q6); replace K3 := hidden (K3.out.step q6); replace K4 := hidden (K4.out.step q6); replace K6 := hidden (K6.out.step q6); have K8 := hidden by6.kp; clear q6 q5 r6 by6 bq5 hg8)
            | ((with_reducible refine at_bdd 21 ?_); refine wpList_bld _ rfl _ _ rfl _ (by rw [List.map_toArray]; exact HB0.out) ?_)
            | ((with_reducible refine at_bdd 63 ?_); refine wpList_bld _ rfl _ _ rfl _ (by rw [List.map_toArray]; exact HB0.out) ?_)
            | ((with_reducible refine at_bdd 69 ?_); refine wpList_bld _ rfl _ _ rfl _ (by rw [List.map_toArray]; exact HB0.out) ?_)
            | ((with_reducible refine at_ald 10 ?_); refine wpList_al _ rfl _ rfl _ zero_proof ?_; intro x8 g10 hg10 hl8 bq8 q8; clear hl8)
            | ((with_reducible refine at_st 10 ?_); refine wpList_sto _ rfl _ _ _ rfl g10 _ ((encR (.slice qa n qc) N).toArray) rfl rfl bq8 (HSP.out _).1 (HSP.out _).2 (encR_one _ _ _ _) ?_; intro x9 by9 r9; have q9 := below_row q8 r9 hg10; replace KV := hidden (KV.out.step q9); replace KW := hidden (KW.out.step q9); replace K3 := hidden (K3.out.step q9); replace K4 := hidden (K4.out.step q9); replace K6 := hidden (K6.out.step q9); replace K8 := hidden (K8.out.step q9); have K10 := hidden by9.kp; have c10 := HK.out _ _ _ _ K10.out.now; have s10 := proof_side K10.out.now; clear q9 q8 r9 by9 bq8 hg10)
            | ((with_reducible refine at_ldd 35 34 ?_); refine wpList_ldw _ rfl _ _ rfl g10 2 a rfl (HR.out _ _ _ _ K10.out.now) _ _ Tryd.underlying24 HLa.out ?_)
            | ((with_reducible refine at_ldd 36 4 ?_); refine wpList_ldg _ rfl _ _ rfl g4 _ rfl K4.out.now _ _ Tryd.underlying24 HSk.out ?_)
            | ((with_reducible refine at_ldd 39 8 ?_); refine wpList_ld _ rfl _ _ rfl g8 _ rfl K8.out.now _ _ Tryd.underlying23 HSU.out.1 ?_)
            | ((with_reducible refine at_ldd 40 3 ?_); refine wpList_ld _ rfl _ _ rfl g3 _ rfl K3.out.now _ _ Tryd.underlying23 HSr.out.1 ?_)
            | ((with_reducible refine at_ldd 54 53 ?_); refine wpList_ldw _ rfl _ _ rfl g10 2 a rfl (HR.out _ _ _ _ K10.out.now) _ _ Tryd.underlying24 HLa.out ?_)
            | ((with_reducible refine at_ldd 55 4 ?_); refine wpList_ldg _ rfl _ _ rfl g4 _ rfl K4.out.now _ _ Tryd.underlying24 HSk.out ?_)
            | ((with_reducible refine at_st 6 ?_); refine wpList_sto _ rfl _ _ _ rfl g6 _ (sdP false z32).toArray rfl rfl K6.out.now HS0.out.1 rfl (said_one _ _) ?_; intro yz Bz rz)
            | (go_at_call 20; refine (HUn.out _).mono ?_; rintro e x10 ⟨rfl, q10⟩; replace KV := hidden (KV.out.step q10); replace KW := hidden (KW.out.step q10); replace K3 := hidden (K3.out.step q10); replace K4 := hidden (K4.out.step q10); replace K6 := hidden (K6.out.step q10); replace K8 := hidden (K8.out.step q10); replace K10 := hidden (K10.out.step q10); have mk_frootcellarref04Under_1 : Hid True := trivial; clear q10)
            | (go_at_call 16; refine (HDe.out _ KV.out.now).mono ?_; rintro e x7 ⟨qa, qc, rfl, hq, q7⟩; replace KV := hidden (KV.out.step q7); replace KW := hidden (KW.out.step q7); replace K3 := hidden (K3.out.step q7); replace K4 := hidden (K4.out.step q7); replace K6 := hidden (K6.out.step q7); replace K8 := hidden (K8.out.step q7); clear hq; have mk_frootcellarref17Decode_1 : Hid True := trivial; clear q7)
            | (go_at_call 6; refine (HTp.out _ KV.out.now).mono ?_; rintro e x4 ⟨rfl, q4⟩; replace KV := hidden (KV.out.step q4); replace KW := hidden (KW.out.step q4); replace K3 := hidden (K3.out.step q4); replace K4 := hidden (K4.out.step q4); replace K6 := hidden (K6.out.step q4); have mk_frootcellarref18Top_1 : Hid True := trivial; clear q4))
          exact bodyPost_ret (v := .tuple #[.agg (sdP false z32).toArray, .int .i64 11]) (results_agg_tmp rfl _ _ g6 _ _ rfl rfl Bz HUS.out HS0.out.1) rfl ⟨rfl, below_row KW.out.now rz HG6.out⟩
      | true => cases o with
        | true =>
          obtain rfl : u = true := hou rfl
          have e1 : rB = true := by rw [hrB]; rfl
          have e2 : b = rV := by rw [hrV, e1]; rfl
          have e3 : rE = 0 := by rw [hrE]; rfl
          subst e1 e2 e3
          clear hrB hrV hrE hou
          go_enter Tryd.func8, Tryd.ntmps8
          go_wp2_with (first
            | ((with_reducible refine at_bxd 3 ?_); refine wpList_bx _ rfl _ _ rfl _ rfl ?_; intro x1 g3 hg1 hl1 bq1 q1; replace KV := hidden (KV.out.step q1); replace KW := hidden (KW.out.step q1); have K3 := hidden bq1.kp; clear hg1 hl1 bq1 q1)
            | ((with_reducible refine at_bxd 4 ?_); refine wpList_bx _ rfl _ _ rfl _ rfl ?_; intro x2 g4 hg2 hl2 bq2 q2; replace KV := hidden (KV.out.step q2); replace KW := hidden (KW.out.step q2); replace K3 := hidden (K3.out.step q2); have K4 := hidden bq2.kp; clear hg2 hl2 bq2 q2)
            | ((with_reducible refine at_ald 6 ?_); refine wpList_al _ rfl _ rfl _ zero_said ?_; intro x3 g6 hg6 hl6 B6 q3; have HG6 : Hid (w.heap.size ≤ g6) := Nat.le_trans KW.out.now.size hg6; replace KV := hidden (KV.out.step q3); replace KW := hidden (KW.out.step q3); replace K3 := hidden (K3.out.step q3); replace K4 := hidden (K4.out.step q3); have K6 := hidden B6.kp; clear hg6 hl6 B6 q3)
            | ((with_reducible refine at_ldd 14 4 ?_); refine wpList_ld _ rfl _ _ rfl g4 _ rfl K4.out.now _ _ Tryd.underlying24 HSk.out ?_)
            | ((with_reducible refine at_ald 8 ?_); refine wpList_al _ rfl _ rfl _ zero_hash ?_; intro x5 g8 hg8 hl5 bq5 q5; clear hl5)
            | ((with_reducible refine at_st 8 ?_); refine wpList_sto _ rfl _ _ _ rfl g8 _ ((B U)) rfl rfl bq5 HSU.out.1 HSU.out.2 (B_one _) ?_; intro x6 by6 r6; have q6 := below_row q5 r6 hg8; replace KV := hidden (KV.out.step q6); replace KW := hidden (KW.out.step q6); replace K3 := hidden (K3.out.step q6); replace K4 := hidden (K4.out.step q6); replace K6 := hidden (K6.out.step q6); have K8 := hidden by6.kp; clear q6 q5 r6 by6 bq5 hg8)
            | ((with_reducible refine at_bdd 21 ?_); refine wpList_bld _ rfl _ _ rfl _ (by rw [List.map_toArray]; exact HB0.out) ?_)
            | ((with_reducible refine at_bdd 63 ?_); refine wpList_bld _ rfl _ _ rfl _ (by rw [List.map_toArray]; exact HB0.out) ?_)
            | ((with_reducible refine at_bdd 69 ?_); refine wpList_bld _ rfl _ _ rfl _ (by rw [List.map_toArray]; exact HB0.out) ?_)
            | ((with_reducible refine at_ald 10 ?_); refine wpList_al _ rfl _ rfl _ zero_proof ?_; intro x8 g10 hg10 hl8 bq8 q8; clear hl8)
            | ((with_reducible refine at_st 10 ?_); refine wpList_sto _ rfl _ _ _ rfl g10 _ ((encR (.slice qa n qc) N).toArray) rfl rfl bq8 (HSP.out _).1 (HSP.out _).2 (encR_one _ _ _ _) ?_; intro x9 by9 r9; have q9 := below_row q8 r9 hg10; replace KV := hidden (KV.out.step q9); replace KW := hidden (KW.out.step q9); replace K3 := hidden (K3.out.step q9); replace K4 := hidden (K4.out.step q9); replace K6 := hidden (K6.out.step q9); replace K8 := hidden (K8.out.step q9); have K10 := hidden by9.kp; have c10 := HK.out _ _ _ _ K10.out.now; have s10 := proof_side K10.out.now; clear q9 q8 r9 by9 bq8 hg10)
            | ((with_reducible refine at_ldd 35 34 ?_); refine wpList_ldw _ rfl _ _ rfl g10 2 a rfl (HR.out _ _ _ _ K10.out.now) _ _ Tryd.underlying24 HLa.out ?_)
            | ((with_reducible refine at_ldd 36 4 ?_); refine wpList_ldg _ rfl _ _ rfl g4 _ rfl K4.out.now _ _ Tryd.underlying24 HSk.out ?_)
            | ((with_reducible refine at_ldd 39 8 ?_); refine wpList_ld _ rfl _ _ rfl g8 _ rfl K8.out.now _ _ Tryd.underlying23 HSU.out.1 ?_)
            | ((with_reducible refine at_ldd 40 3 ?_); refine wpList_ld _ rfl _ _ rfl g3 _ rfl K3.out.now _ _ Tryd.underlying23 HSr.out.1 ?_)
            | ((with_reducible refine at_ldd 54 53 ?_); refine wpList_ldw _ rfl _ _ rfl g10 2 a rfl (HR.out _ _ _ _ K10.out.now) _ _ Tryd.underlying24 HLa.out ?_)
            | ((with_reducible refine at_ldd 55 4 ?_); refine wpList_ldg _ rfl _ _ rfl g4 _ rfl K4.out.now _ _ Tryd.underlying24 HSk.out ?_)
            | ((with_reducible refine at_ldd 67 66 ?_); refine wpList_ldw _ rfl _ _ rfl g10 34 b rfl (HRb.out _ _ _ _ K10.out.now) _ _ Tryd.underlying23 HLb.out ?_)
            | ((with_reducible refine at_bdd 68 ?_); refine wpList_bld _ rfl _ _ rfl _ (by rw [List.map_toArray]; exact HB1.out) ?_)
            | ((with_reducible refine at_st 6 ?_); refine wpList_sto _ rfl _ _ _ rfl g6 _ (sdP true b).toArray rfl rfl K6.out.now HS1.out.1 HS1.out.2 (said_one _ _) ?_; intro yz Bz rz)
            | (go_at_call 20; refine (HUn.out _).mono ?_; rintro e x10 ⟨rfl, q10⟩; replace KV := hidden (KV.out.step q10); replace KW := hidden (KW.out.step q10); replace K3 := hidden (K3.out.step q10); replace K4 := hidden (K4.out.step q10); replace K6 := hidden (K6.out.step q10); replace K8 := hidden (K8.out.step q10); replace K10 := hidden (K10.out.step q10); have mk_frootcellarref04Under_1 : Hid True := trivial; clear q10)
            | (go_at_call 16; refine (HDe.out _ KV.out.now).mono ?_; rintro e x7 ⟨qa, qc, rfl, hq, q7⟩; replace KV := hidden (KV.out.step q7); replace KW := hidden (KW.out.step q7); replace K3 := hidden (K3.out.step q7); replace K4 := hidden (K4.out.step q7); replace K6 := hidden (K6.out.step q7); replace K8 := hidden (K8.out.step q7); clear hq; have mk_frootcellarref17Decode_1 : Hid True := trivial; clear q7)
            | (go_at_call 6; refine (HTp.out _ KV.out.now).mono ?_; rintro e x4 ⟨rfl, q4⟩; replace KV := hidden (KV.out.step q4); replace KW := hidden (KW.out.step q4); replace K3 := hidden (K3.out.step q4); replace K4 := hidden (K4.out.step q4); replace K6 := hidden (K6.out.step q4); have mk_frootcellarref18Top_1 : Hid True := trivial; clear q4))
          exact bodyPost_ret (v := .tuple #[.agg (sdP true b).toArray, .int .i64 0]) (results_agg_tmp rfl _ _ g6 _ _ rfl rfl Bz HUS.out HS1.out.1) rfl ⟨rfl, below_row KW.out.now rz HG6.out⟩
        | false => cases u with
          | true =>
            have e1 : rB = false := by rw [hrB]; rfl
            have e2 : rV = z32 := by rw [hrV, e1]; rfl
            have e3 : rE = 0 := by rw [hrE]; rfl
            subst e1 e2 e3
            clear hrB hrV hrE hou
            go_enter Tryd.func8, Tryd.ntmps8
            go_wp2_with (first
              | ((with_reducible refine at_bxd 3 ?_); refine wpList_bx _ rfl _ _ rfl _ rfl ?_; intro x1 g3 hg1 hl1 bq1 q1; replace KV := hidden (KV.out.step q1); replace KW := hidden (KW.out.step q1); have K3 := hidden bq1.kp; clear hg1 hl1 bq1 q1)
              | ((with_reducible refine at_bxd 4 ?_); refine wpList_bx _ rfl _ _ rfl _ rfl ?_; intro x2 g4 hg2 hl2 bq2 q2; replace KV := hidden (KV.out.step q2); replace KW := hidden (KW.out.step q2); replace K3 := hidden (K3.out.step q2); have K4 := hidden bq2.kp; clear hg2 hl2 bq2 q2)
              | ((with_reducible refine at_ald 6 ?_); refine wpList_al _ rfl _ rfl _ zero_said ?_; intro x3 g6 hg6 hl6 B6 q3; have HG6 : Hid (w.heap.size ≤ g6) := Nat.le_trans KW.out.now.size hg6; replace KV := hidden (KV.out.step q3); replace KW := hidden (KW.out.step q3); replace K3 := hidden (K3.out.step q3); replace K4 := hidden (K4.out.step q3); have K6 := hidden B6.kp; clear hg6 hl6 B6 q3)
              | ((with_reducible refine at_ldd 14 4 ?_); refine wpList_ld _ rfl _ _ rfl g4 _ rfl K4.out.now _ _ Tryd.underlying24 HSk.out ?_)
              | ((with_reducible refine at_ald 8 ?_); refine wpList_al _ rfl _ rfl _ zero_hash ?_; intro x5 g8 hg8 hl5 bq5 q5; clear hl5)
              | ((with_reducible refine at_st 8 ?_); refine wpList_sto _ rfl _ _ _ rfl g8 _ ((B U)) rfl rfl bq5 HSU.out.1 HSU.out.2 (B_one _) ?_; intro x6 by6 r6; have q6 := below_row q5 r6 hg8; replace KV := hidden (KV.out.step q6); replace KW := hidden (KW.out.step q6); replace K3 := hidden (K3.out.step q6); replace K4 := hidden (K4.out.step q6); replace K6 := hidden (K6.out.step q6); have K8 := hidden by6.kp; clear q6 q5 r6 by6 bq5 hg8)
              | ((with_reducible refine at_bdd 21 ?_); refine wpList_bld _ rfl _ _ rfl _ (by rw [List.map_toArray]; exact HB0.out) ?_)
              | ((with_reducible refine at_bdd 63 ?_); refine wpList_bld _ rfl _ _ rfl _ (by rw [List.map_toArray]; exact HB0.out) ?_)
              | ((with_reducible refine at_bdd 69 ?_); refine wpList_bld _ rfl _ _ rfl _ (by rw [List.map_toArray]; exact HB0.out) ?_)
              | ((with_reducible refine at_ald 10 ?_); refine wpList_al _ rfl _ rfl _ zero_proof ?_; intro x8 g10 hg10 hl8 bq8 q8; clear hl8)
              | ((with_reducible refine at_st 10 ?_); refine wpList_sto _ rfl _ _ _ rfl g10 _ ((encR (.slice qa n qc) N).toArray) rfl rfl bq8 (HSP.out _).1 (HSP.out _).2 (encR_one _ _ _ _) ?_; intro x9 by9 r9; have q9 := below_row q8 r9 hg10; replace KV := hidden (KV.out.step q9); replace KW := hidden (KW.out.step q9); replace K3 := hidden (K3.out.step q9); replace K4 := hidden (K4.out.step q9); replace K6 := hidden (K6.out.step q9); replace K8 := hidden (K8.out.step q9); have K10 := hidden by9.kp; have c10 := HK.out _ _ _ _ K10.out.now; have s10 := proof_side K10.out.now; clear q9 q8 r9 by9 bq8 hg10)
              | ((with_reducible refine at_ldd 35 34 ?_); refine wpList_ldw _ rfl _ _ rfl g10 2 a rfl (HR.out _ _ _ _ K10.out.now) _ _ Tryd.underlying24 HLa.out ?_)
              | ((with_reducible refine at_ldd 36 4 ?_); refine wpList_ldg _ rfl _ _ rfl g4 _ rfl K4.out.now _ _ Tryd.underlying24 HSk.out ?_)
              | ((with_reducible refine at_ldd 39 8 ?_); refine wpList_ld _ rfl _ _ rfl g8 _ rfl K8.out.now _ _ Tryd.underlying23 HSU.out.1 ?_)
              | ((with_reducible refine at_ldd 40 3 ?_); refine wpList_ld _ rfl _ _ rfl g3 _ rfl K3.out.now _ _ Tryd.underlying23 HSr.out.1 ?_)
              | ((with_reducible refine at_ldd 54 53 ?_); refine wpList_ldw _ rfl _ _ rfl g10 2 a rfl (HR.out _ _ _ _ K10.out.now) _ _ Tryd.underlying24 HLa.out ?_)
              | ((with_reducible refine at_ldd 55 4 ?_); refine wpList_ldg _ rfl _ _ rfl g4 _ rfl K4.out.now _ _ Tryd.underlying24 HSk.out ?_)
              | ((with_reducible refine at_st 6 ?_); refine wpList_sto _ rfl _ _ _ rfl g6 _ (sdP false z32).toArray rfl rfl K6.out.now HS0.out.1 rfl (said_one _ _) ?_; intro yz Bz rz)
              | (go_at_call 20; refine (HUn.out _).mono ?_; rintro e x10 ⟨rfl, q10⟩; replace KV := hidden (KV.out.step q10); replace KW := hidden (KW.out.step q10); replace K3 := hidden (K3.out.step q10); replace K4 := hidden (K4.out.step q10); replace K6 := hidden (K6.out.step q10); replace K8 := hidden (K8.out.step q10); replace K10 := hidden (K10.out.step q10); have mk_frootcellarref04Under_1 : Hid True := trivial; clear q10)
              | (go_at_call 16; refine (HDe.out _ KV.out.now).mono ?_; rintro e x7 ⟨qa, qc, rfl, hq, q7⟩; replace KV := hidden (KV.out.step q7); replace KW := hidden (KW.out.step q7); replace K3 := hidden (K3.out.step q7); replace K4 := hidden (K4.out.step q7); replace K6 := hidden (K6.out.step q7); replace K8 := hidden (K8.out.step q7); clear hq; have mk_frootcellarref17Decode_1 : Hid True := trivial; clear q7)
              | (go_at_call 6; refine (HTp.out _ KV.out.now).mono ?_; rintro e x4 ⟨rfl, q4⟩; replace KV := hidden (KV.out.step q4); replace KW := hidden (KW.out.step q4); replace K3 := hidden (K3.out.step q4); replace K4 := hidden (K4.out.step q4); replace K6 := hidden (K6.out.step q4); have mk_frootcellarref18Top_1 : Hid True := trivial; clear q4))
            exact bodyPost_ret (v := .tuple #[.agg (sdP false z32).toArray, .int .i64 0]) (results_agg_tmp rfl _ _ g6 _ _ rfl rfl Bz HUS.out HS0.out.1) rfl ⟨rfl, below_row KW.out.now rz HG6.out⟩
          | false =>
            have e1 : rB = false := by rw [hrB]; rfl
            have e2 : rV = z32 := by rw [hrV, e1]; rfl
            have e3 : rE = 11 := by rw [hrE]; rfl
            subst e1 e2 e3
            clear hrB hrV hrE hou
            go_enter Tryd.func8, Tryd.ntmps8
            go_wp2_with (first
              | ((with_reducible refine at_bxd 3 ?_); refine wpList_bx _ rfl _ _ rfl _ rfl ?_; intro x1 g3 hg1 hl1 bq1 q1; replace KV := hidden (KV.out.step q1); replace KW := hidden (KW.out.step q1); have K3 := hidden bq1.kp; clear hg1 hl1 bq1 q1)
              | ((with_reducible refine at_bxd 4 ?_); refine wpList_bx _ rfl _ _ rfl _ rfl ?_; intro x2 g4 hg2 hl2 bq2 q2; replace KV := hidden (KV.out.step q2); replace KW := hidden (KW.out.step q2); replace K3 := hidden (K3.out.step q2); have K4 := hidden bq2.kp; clear hg2 hl2 bq2 q2)
              | ((with_reducible refine at_ald 6 ?_); refine wpList_al _ rfl _ rfl _ zero_said ?_; intro x3 g6 hg6 hl6 B6 q3; have HG6 : Hid (w.heap.size ≤ g6) := Nat.le_trans KW.out.now.size hg6; replace KV := hidden (KV.out.step q3); replace KW := hidden (KW.out.step q3); replace K3 := hidden (K3.out.step q3); replace K4 := hidden (K4.out.step q3); have K6 := hidden B6.kp; clear hg6 hl6 B6 q3)
              | ((with_reducible refine at_ldd 14 4 ?_); refine wpList_ld _ rfl _ _ rfl g4 _ rfl K4.out.now _ _ Tryd.underlying24 HSk.out ?_)
              | ((with_reducible refine at_ald 8 ?_); refine wpList_al _ rfl _ rfl _ zero_hash ?_; intro x5 g8 hg8 hl5 bq5 q5; clear hl5)
              | ((with_reducible refine at_st 8 ?_); refine wpList_sto _ rfl _ _ _ rfl g8 _ ((B U)) rfl rfl bq5 HSU.out.1 HSU.out.2 (B_one _) ?_; intro x6 by6 r6; have q6 := below_row q5 r6 hg8; replace KV := hidden (KV.out.step q6); replace KW := hidden (KW.out.step q6); replace K3 := hidden (K3.out.step q6); replace K4 := hidden (K4.out.step q6); replace K6 := hidden (K6.out.step q6); have K8 := hidden by6.kp; clear q6 q5 r6 by6 bq5 hg8)
              | ((with_reducible refine at_bdd 21 ?_); refine wpList_bld _ rfl _ _ rfl _ (by rw [List.map_toArray]; exact HB0.out) ?_)
              | ((with_reducible refine at_bdd 63 ?_); refine wpList_bld _ rfl _ _ rfl _ (by rw [List.map_toArray]; exact HB0.out) ?_)
              | ((with_reducible refine at_bdd 69 ?_); refine wpList_bld _ rfl _ _ rfl _ (by rw [List.map_toArray]; exact HB0.out) ?_)
              | ((with_reducible refine at_ald 10 ?_); refine wpList_al _ rfl _ rfl _ zero_proof ?_; intro x8 g10 hg10 hl8 bq8 q8; clear hl8)
              | ((with_reducible refine at_st 10 ?_); refine wpList_sto _ rfl _ _ _ rfl g10 _ ((encR (.slice qa n qc) N).toArray) rfl rfl bq8 (HSP.out _).1 (HSP.out _).2 (encR_one _ _ _ _) ?_; intro x9 by9 r9; have q9 := below_row q8 r9 hg10; replace KV := hidden (KV.out.step q9); replace KW := hidden (KW.out.step q9); replace K3 := hidden (K3.out.step q9); replace K4 := hidden (K4.out.step q9); replace K6 := hidden (K6.out.step q9); replace K8 := hidden (K8.out.step q9); have K10 := hidden by9.kp; have c10 := HK.out _ _ _ _ K10.out.now; have s10 := proof_side K10.out.now; clear q9 q8 r9 by9 bq8 hg10)
              | ((with_reducible refine at_ldd 35 34 ?_); refine wpList_ldw _ rfl _ _ rfl g10 2 a rfl (HR.out _ _ _ _ K10.out.now) _ _ Tryd.underlying24 HLa.out ?_)
              | ((with_reducible refine at_ldd 36 4 ?_); refine wpList_ldg _ rfl _ _ rfl g4 _ rfl K4.out.now _ _ Tryd.underlying24 HSk.out ?_)
              | ((with_reducible refine at_ldd 39 8 ?_); refine wpList_ld _ rfl _ _ rfl g8 _ rfl K8.out.now _ _ Tryd.underlying23 HSU.out.1 ?_)
              | ((with_reducible refine at_ldd 40 3 ?_); refine wpList_ld _ rfl _ _ rfl g3 _ rfl K3.out.now _ _ Tryd.underlying23 HSr.out.1 ?_)
              | ((with_reducible refine at_ldd 54 53 ?_); refine wpList_ldw _ rfl _ _ rfl g10 2 a rfl (HR.out _ _ _ _ K10.out.now) _ _ Tryd.underlying24 HLa.out ?_)
              | ((with_reducible refine at_ldd 55 4 ?_); refine wpList_ldg _ rfl _ _ rfl g4 _ rfl K4.out.now _ _ Tryd.underlying24 HSk.out ?_)
              | ((with_reducible refine at_st 6 ?_); refine wpList_sto _ rfl _ _ _ rfl g6 _ (sdP false z32).toArray rfl rfl K6.out.now HS0.out.1 rfl (said_one _ _) ?_; intro yz Bz rz)
              | (go_at_call 20; refine (HUn.out _).mono ?_; rintro e x10 ⟨rfl, q10⟩; replace KV := hidden (KV.out.step q10); replace KW := hidden (KW.out.step q10); replace K3 := hidden (K3.out.step q10); replace K4 := hidden (K4.out.step q10); replace K6 := hidden (K6.out.step q10); replace K8 := hidden (K8.out.step q10); replace K10 := hidden (K10.out.step q10); have mk_frootcellarref04Under_1 : Hid True := trivial; clear q10)
              | (go_at_call 16; refine (HDe.out _ KV.out.now).mono ?_; rintro e x7 ⟨qa, qc, rfl, hq, q7⟩; replace KV := hidden (KV.out.step q7); replace KW := hidden (KW.out.step q7); replace K3 := hidden (K3.out.step q7); replace K4 := hidden (K4.out.step q7); replace K6 := hidden (K6.out.step q7); replace K8 := hidden (K8.out.step q7); clear hq; have mk_frootcellarref17Decode_1 : Hid True := trivial; clear q7)
              | (go_at_call 6; refine (HTp.out _ KV.out.now).mono ?_; rintro e x4 ⟨rfl, q4⟩; replace KV := hidden (KV.out.step q4); replace KW := hidden (KW.out.step q4); replace K3 := hidden (K3.out.step q4); replace K4 := hidden (K4.out.step q4); replace K6 := hidden (K6.out.step q4); have mk_frootcellarref18Top_1 : Hid True := trivial; clear q4))
            exact bodyPost_ret (v := .tuple #[.agg (sdP false z32).toArray, .int .i64 11]) (results_agg_tmp rfl _ _ g6 _ _ rfl rfl Bz HUS.out HS0.out.1) rfl ⟨rfl, below_row KW.out.now rz HG6.out⟩
    · have z1 : (k == 1) = false := by simp [h1]
      rw [decide_eq_false h1] at hrB hrE
      clear h1
      cases r with
      | false =>
        have e1 : rB = false := by rw [hrB]; simp
        have e2 : rV = z32 := by rw [hrV, e1]; rfl
        have e3 : rE = 11 := by rw [hrE]; simp
        subst e1 e2 e3
        clear hrB hrV hrE hou
        go_enter Tryd.func8, Tryd.ntmps8
        go_wp2_with (first
          | ((with_reducible refine at_bxd 3 ?_); refine wpList_bx _ rfl _ _ rfl _ rfl ?_; intro x1 g3 hg1 hl1 bq1 q1; replace KV := hidden (KV.out.step q1); replace KW := hidden (KW.out.step q1); have K3 := hidden bq1.kp; clear hg1 hl1 bq1 q1)
          | ((with_reducible refine at_bxd 4 ?_); refine wpList_bx _ rfl _ _ rfl _ rfl ?_; intro x2 g4 hg2 hl2 bq2 q2; replace KV := hidden (KV.out.step q2); replace KW := hidden (KW.out.step q2); replace K3 := hidden (K3.out.step q2); have K4 := hidden bq2.kp; clear hg2 hl2 bq2 q2)
          | ((with_reducible refine at_ald 6 ?_); refine wpList_al _ rfl _ rfl _ zero_said ?_; intro x3 g6 hg6 hl6 B6 q3; have HG6 : Hid (w.heap.size ≤ g6) := Nat.le_trans KW.out.now.size hg6; replace KV := hidden (KV.out.step q3); replace KW := hidden (KW.out.step q3); replace K3 := hidden (K3.out.step q3); replace K4 := hidden (K4.out.step q3); have K6 := hidden B6.kp; clear hg6 hl6 B6 q3)
          | ((with_reducible refine at_ldd 14 4 ?_); refine wpList_ld _ rfl _ _ rfl g4 _ rfl K4.out.now _ _ Tryd.underlying24 HSk.out ?_)
          | ((with_reducible refine at_ald 8 ?_); refine wpList_al _ rfl _ rfl _ zero_hash ?_; intro x5 g8 hg8 hl5 bq5 q5; clear hl5)
          | ((with_reducible refine at_st 8 ?_); refine wpList_sto _ rfl _ _ _ rfl g8 _ ((B U)) rfl rfl bq5 HSU.out.1 HSU.out.2 (B_one _) ?_; intro x6 by6 r6; have q6 := below_row q5 r6 hg8; replace KV := hidden (KV.out.step q6); replace KW := hidden (KW.out.step q6); replace K3 := hidden (K3.out.step q6); replace K4 := hidden (K4.out.step q6); replace K6 := hidden (K6.out.step q6); have K8 := hidden by6.kp; clear q6 q5 r6 by6 bq5 hg8)
          | ((with_reducible refine at_bdd 21 ?_); refine wpList_bld _ rfl _ _ rfl _ (by rw [List.map_toArray]; exact HB0.out) ?_)
          | ((with_reducible refine at_bdd 63 ?_); refine wpList_bld _ rfl _ _ rfl _ (by rw [List.map_toArray]; exact HB0.out) ?_)
          | ((with_reducible refine at_bdd 69 ?_); refine wpList_bld _ rfl _ _ rfl _ (by rw [List.map_toArray]; exact HB0.out) ?_)
          | ((with_reducible refine at_ald 10 ?_); refine wpList_al _ rfl _ rfl _ zero_proof ?_; intro x8 g10 hg10 hl8 bq8 q8; clear hl8)
          | ((with_reducible refine at_st 10 ?_); refine wpList_sto _ rfl _ _ _ rfl g10 _ ((encR (.slice qa n qc) N).toArray) rfl rfl bq8 (HSP.out _).1 (HSP.out _).2 (encR_one _ _ _ _) ?_; intro x9 by9 r9; have q9 := below_row q8 r9 hg10; replace KV := hidden (KV.out.step q9); replace KW := hidden (KW.out.step q9); replace K3 := hidden (K3.out.step q9); replace K4 := hidden (K4.out.step q9); replace K6 := hidden (K6.out.step q9); replace K8 := hidden (K8.out.step q9); have K10 := hidden by9.kp; have c10 := HK.out _ _ _ _ K10.out.now; have s10 := proof_side K10.out.now; clear q9 q8 r9 by9 bq8 hg10)
          | ((with_reducible refine at_ldd 35 34 ?_); refine wpList_ldw _ rfl _ _ rfl g10 2 a rfl (HR.out _ _ _ _ K10.out.now) _ _ Tryd.underlying24 HLa.out ?_)
          | ((with_reducible refine at_ldd 36 4 ?_); refine wpList_ldg _ rfl _ _ rfl g4 _ rfl K4.out.now _ _ Tryd.underlying24 HSk.out ?_)
          | ((with_reducible refine at_ldd 39 8 ?_); refine wpList_ld _ rfl _ _ rfl g8 _ rfl K8.out.now _ _ Tryd.underlying23 HSU.out.1 ?_)
          | ((with_reducible refine at_ldd 40 3 ?_); refine wpList_ld _ rfl _ _ rfl g3 _ rfl K3.out.now _ _ Tryd.underlying23 HSr.out.1 ?_)
          | ((with_reducible refine at_ldd 54 53 ?_); refine wpList_ldw _ rfl _ _ rfl g10 2 a rfl (HR.out _ _ _ _ K10.out.now) _ _ Tryd.underlying24 HLa.out ?_)
          | ((with_reducible refine at_ldd 55 4 ?_); refine wpList_ldg _ rfl _ _ rfl g4 _ rfl K4.out.now _ _ Tryd.underlying24 HSk.out ?_)
          | ((with_reducible refine at_st 6 ?_); refine wpList_sto _ rfl _ _ _ rfl g6 _ (sdP false z32).toArray rfl rfl K6.out.now HS0.out.1 rfl (said_one _ _) ?_; intro yz Bz rz)
          | (go_at_call 20; refine (HUn.out _).mono ?_; rintro e x10 ⟨rfl, q10⟩; replace KV := hidden (KV.out.step q10); replace KW := hidden (KW.out.step q10); replace K3 := hidden (K3.out.step q10); replace K4 := hidden (K4.out.step q10); replace K6 := hidden (K6.out.step q10); replace K8 := hidden (K8.out.step q10); replace K10 := hidden (K10.out.step q10); have mk_frootcellarref04Under_1 : Hid True := trivial; clear q10)
          | (go_at_call 16; refine (HDe.out _ KV.out.now).mono ?_; rintro e x7 ⟨qa, qc, rfl, hq, q7⟩; replace KV := hidden (KV.out.step q7); replace KW := hidden (KW.out.step q7); replace K3 := hidden (K3.out.step q7); replace K4 := hidden (K4.out.step q7); replace K6 := hidden (K6.out.step q7); replace K8 := hidden (K8.out.step q7); clear hq; have mk_frootcellarref17Decode_1 : Hid True := trivial; clear q7)
          | (go_at_call 6; refine (HTp.out _ KV.out.now).mono ?_; rintro e x4 ⟨rfl, q4⟩; replace KV := hidden (KV.out.step q4); replace KW := hidden (KW.out.step q4); replace K3 := hidden (K3.out.step q4); replace K4 := hidden (K4.out.step q4); replace K6 := hidden (K6.out.step q4); have mk_frootcellarref18Top_1 : Hid True := trivial; clear q4))
        exact bodyPost_ret (v := .tuple #[.agg (sdP false z32).toArray, .int .i64 11]) (results_agg_tmp rfl _ _ g6 _ _ rfl rfl Bz HUS.out HS0.out.1) rfl ⟨rfl, below_row KW.out.now rz HG6.out⟩
      | true =>
        have e1 : rB = false := by rw [hrB]; simp
        have e2 : rV = z32 := by rw [hrV, e1]; rfl
        have e3 : rE = 0 := by rw [hrE]; simp
        subst e1 e2 e3
        clear hrB hrV hrE hou
        go_enter Tryd.func8, Tryd.ntmps8
        go_wp2_with (first
          | ((with_reducible refine at_bxd 3 ?_); refine wpList_bx _ rfl _ _ rfl _ rfl ?_; intro x1 g3 hg1 hl1 bq1 q1; replace KV := hidden (KV.out.step q1); replace KW := hidden (KW.out.step q1); have K3 := hidden bq1.kp; clear hg1 hl1 bq1 q1)
          | ((with_reducible refine at_bxd 4 ?_); refine wpList_bx _ rfl _ _ rfl _ rfl ?_; intro x2 g4 hg2 hl2 bq2 q2; replace KV := hidden (KV.out.step q2); replace KW := hidden (KW.out.step q2); replace K3 := hidden (K3.out.step q2); have K4 := hidden bq2.kp; clear hg2 hl2 bq2 q2)
          | ((with_reducible refine at_ald 6 ?_); refine wpList_al _ rfl _ rfl _ zero_said ?_; intro x3 g6 hg6 hl6 B6 q3; have HG6 : Hid (w.heap.size ≤ g6) := Nat.le_trans KW.out.now.size hg6; replace KV := hidden (KV.out.step q3); replace KW := hidden (KW.out.step q3); replace K3 := hidden (K3.out.step q3); replace K4 := hidden (K4.out.step q3); have K6 := hidden B6.kp; clear hg6 hl6 B6 q3)
          | ((with_reducible refine at_ldd 14 4 ?_); refine wpList_ld _ rfl _ _ rfl g4 _ rfl K4.out.now _ _ Tryd.underlying24 HSk.out ?_)
          | ((with_reducible refine at_ald 8 ?_); refine wpList_al _ rfl _ rfl _ zero_hash ?_; intro x5 g8 hg8 hl5 bq5 q5; clear hl5)
          | ((with_reducible refine at_st 8 ?_); refine wpList_sto _ rfl _ _ _ rfl g8 _ ((B U)) rfl rfl bq5 HSU.out.1 HSU.out.2 (B_one _) ?_; intro x6 by6 r6; have q6 := below_row q5 r6 hg8; replace KV := hidden (KV.out.step q6); replace KW := hidden (KW.out.step q6); replace K3 := hidden (K3.out.step q6); replace K4 := hidden (K4.out.step q6); replace K6 := hidden (K6.out.step q6); have K8 := hidden by6.kp; clear q6 q5 r6 by6 bq5 hg8)
          | ((with_reducible refine at_bdd 21 ?_); refine wpList_bld _ rfl _ _ rfl _ (by rw [List.map_toArray]; exact HB0.out) ?_)
          | ((with_reducible refine at_bdd 63 ?_); refine wpList_bld _ rfl _ _ rfl _ (by rw [List.map_toArray]; exact HB0.out) ?_)
          | ((with_reducible refine at_bdd 69 ?_); refine wpList_bld _ rfl _ _ rfl _ (by rw [List.map_toArray]; exact HB0.out) ?_)
          | ((with_reducible refine at_ald 10 ?_); refine wpList_al _ rfl _ rfl _ zero_proof ?_; intro x8 g10 hg10 hl8 bq8 q8; clear hl8)
          | ((with_reducible refine at_st 10 ?_); refine wpList_sto _ rfl _ _ _ rfl g10 _ ((encR (.slice qa n qc) N).toArray) rfl rfl bq8 (HSP.out _).1 (HSP.out _).2 (encR_one _ _ _ _) ?_; intro x9 by9 r9; have q9 := below_row q8 r9 hg10; replace KV := hidden (KV.out.step q9); replace KW := hidden (KW.out.step q9); replace K3 := hidden (K3.out.step q9); replace K4 := hidden (K4.out.step q9); replace K6 := hidden (K6.out.step q9); replace K8 := hidden (K8.out.step q9); have K10 := hidden by9.kp; have c10 := HK.out _ _ _ _ K10.out.now; have s10 := proof_side K10.out.now; clear q9 q8 r9 by9 bq8 hg10)
          | ((with_reducible refine at_ldd 35 34 ?_); refine wpList_ldw _ rfl _ _ rfl g10 2 a rfl (HR.out _ _ _ _ K10.out.now) _ _ Tryd.underlying24 HLa.out ?_)
          | ((with_reducible refine at_ldd 36 4 ?_); refine wpList_ldg _ rfl _ _ rfl g4 _ rfl K4.out.now _ _ Tryd.underlying24 HSk.out ?_)
          | ((with_reducible refine at_ldd 39 8 ?_); refine wpList_ld _ rfl _ _ rfl g8 _ rfl K8.out.now _ _ Tryd.underlying23 HSU.out.1 ?_)
          | ((with_reducible refine at_ldd 40 3 ?_); refine wpList_ld _ rfl _ _ rfl g3 _ rfl K3.out.now _ _ Tryd.underlying23 HSr.out.1 ?_)
          | ((with_reducible refine at_ldd 54 53 ?_); refine wpList_ldw _ rfl _ _ rfl g10 2 a rfl (HR.out _ _ _ _ K10.out.now) _ _ Tryd.underlying24 HLa.out ?_)
          | ((with_reducible refine at_ldd 55 4 ?_); refine wpList_ldg _ rfl _ _ rfl g4 _ rfl K4.out.now _ _ Tryd.underlying24 HSk.out ?_)
          | ((with_reducible refine at_st 6 ?_); refine wpList_sto _ rfl _ _ _ rfl g6 _ (sdP false z32).toArray rfl rfl K6.out.now HS0.out.1 rfl (said_one _ _) ?_; intro yz Bz rz)
          | (go_at_call 20; refine (HUn.out _).mono ?_; rintro e x10 ⟨rfl, q10⟩; replace KV := hidden (KV.out.step q10); replace KW := hidden (KW.out.step q10); replace K3 := hidden (K3.out.step q10); replace K4 := hidden (K4.out.step q10); replace K6 := hidden (K6.out.step q10); replace K8 := hidden (K8.out.step q10); replace K10 := hidden (K10.out.step q10); have mk_frootcellarref04Under_1 : Hid True := trivial; clear q10)
          | (go_at_call 16; refine (HDe.out _ KV.out.now).mono ?_; rintro e x7 ⟨qa, qc, rfl, hq, q7⟩; replace KV := hidden (KV.out.step q7); replace KW := hidden (KW.out.step q7); replace K3 := hidden (K3.out.step q7); replace K4 := hidden (K4.out.step q7); replace K6 := hidden (K6.out.step q7); replace K8 := hidden (K8.out.step q7); clear hq; have mk_frootcellarref17Decode_1 : Hid True := trivial; clear q7)
          | (go_at_call 6; refine (HTp.out _ KV.out.now).mono ?_; rintro e x4 ⟨rfl, q4⟩; replace KV := hidden (KV.out.step q4); replace KW := hidden (KW.out.step q4); replace K3 := hidden (K3.out.step q4); replace K4 := hidden (K4.out.step q4); replace K6 := hidden (K6.out.step q4); have mk_frootcellarref18Top_1 : Hid True := trivial; clear q4))
        exact bodyPost_ret (v := .tuple #[.agg (sdP false z32).toArray, .int .i64 0]) (results_agg_tmp rfl _ _ g6 _ _ rfl rfl Bz HUS.out HS0.out.1) rfl ⟨rfl, below_row KW.out.now rz HG6.out⟩
  · have HE : dpE zs = 10 := by rw [dpE, if_neg ho]
    have hrE : rdE root key zs k a b c d = 10 := by rw [rdE, if_neg ho]
    have hrB : rdB root key zs k a b c d = false := by simp [rdB, rdA, ho]
    have hrV : rdV root key zs k a b c d = z32 := by rw [rdV, if_neg (by rw [hrB]; simp)]
    rw [HE] at hTp
    rw [hrE, hrB, hrV]
    have HTp := hidden hTp
    clear hTp hDe hUn hll hl hn hN hus hroot hkey hrE hrB hrV HE ho
    generalize vfT key zs k a b c d = U at *
    go_enter Tryd.func8, Tryd.ntmps8
    go_wp2_with (first
      | ((with_reducible refine at_bxd 3 ?_); refine wpList_bx _ rfl _ _ rfl _ rfl ?_; intro x1 g3 hg1 hl1 bq1 q1; replace KV := hidden (KV.out.step q1); replace KW := hidden (KW.out.step q1); have K3 := hidden bq1.kp; clear hg1 hl1 bq1 q1)
      | ((with_reducible refine at_bxd 4 ?_); refine wpList_bx _ rfl _ _ rfl _ rfl ?_; intro x2 g4 hg2 hl2 bq2 q2; replace KV := hidden (KV.out.step q2); replace KW := hidden (KW.out.step q2); replace K3 := hidden (K3.out.step q2); have K4 := hidden bq2.kp; clear hg2 hl2 bq2 q2)
      | ((with_reducible refine at_ald 6 ?_); refine wpList_al _ rfl _ rfl _ zero_said ?_; intro x3 g6 hg6 hl6 B6 q3; have HG6 : Hid (w.heap.size ≤ g6) := Nat.le_trans KW.out.now.size hg6; replace KV := hidden (KV.out.step q3); replace KW := hidden (KW.out.step q3); replace K3 := hidden (K3.out.step q3); replace K4 := hidden (K4.out.step q3); have K6 := hidden B6.kp; clear hg6 hl6 B6 q3)
      | ((with_reducible refine at_ldd 14 4 ?_); refine wpList_ld _ rfl _ _ rfl g4 _ rfl K4.out.now _ _ Tryd.underlying24 HSk.out ?_)
      | ((with_reducible refine at_ald 8 ?_); refine wpList_al _ rfl _ rfl _ zero_hash ?_; intro x5 g8 hg8 hl5 bq5 q5; clear hl5)
      | ((with_reducible refine at_st 8 ?_); refine wpList_sto _ rfl _ _ _ rfl g8 _ ((B U)) rfl rfl bq5 HSU.out.1 HSU.out.2 (B_one _) ?_; intro x6 by6 r6; have q6 := below_row q5 r6 hg8; replace KV := hidden (KV.out.step q6); replace KW := hidden (KW.out.step q6); replace K3 := hidden (K3.out.step q6); replace K4 := hidden (K4.out.step q6); replace K6 := hidden (K6.out.step q6); have K8 := hidden by6.kp; clear q6 q5 r6 by6 bq5 hg8)
      | ((with_reducible refine at_bdd 21 ?_); refine wpList_bld _ rfl _ _ rfl _ (by rw [List.map_toArray]; exact HB0.out) ?_)
      | ((with_reducible refine at_bdd 63 ?_); refine wpList_bld _ rfl _ _ rfl _ (by rw [List.map_toArray]; exact HB0.out) ?_)
      | ((with_reducible refine at_bdd 69 ?_); refine wpList_bld _ rfl _ _ rfl _ (by rw [List.map_toArray]; exact HB0.out) ?_)
      | ((with_reducible refine at_st 6 ?_); refine wpList_sto _ rfl _ _ _ rfl g6 _ (sdP false z32).toArray rfl rfl K6.out.now HS0.out.1 rfl (said_one _ _) ?_; intro yz Bz rz)
      | (go_at_call 6; refine (HTp.out _ KV.out.now).mono ?_; rintro e x4 ⟨rfl, q4⟩; replace KV := hidden (KV.out.step q4); replace KW := hidden (KW.out.step q4); replace K3 := hidden (K3.out.step q4); replace K4 := hidden (K4.out.step q4); replace K6 := hidden (K6.out.step q4); have mk_frootcellarref18Top_1 : Hid True := trivial; clear q4))
    exact bodyPost_ret (v := .tuple #[.agg (sdP false z32).toArray, .int .i64 10]) (results_agg_tmp rfl _ _ g6 _ _ rfl rfl Bz HUS.out HS0.out.1) rfl ⟨rfl, below_row KW.out.now rz HG6.out⟩

set_option maxHeartbeats 4000000 in
theorem rabsent_any (root key : List Int) (v : Value) (zs : List Int) (k : Int) (a b c d : List Int) (w : World) (hroot : Key root) (hkey : Key key) (h : Reads w v zs) (hl : zs.length ≤ 140737488355328 - 4096) (hn : dpN zs = nd k a b c d) (hN : Nd k a b c d) :
    Calls Tryd.prog 12 #[.agg (B root), .agg (B key), v] w fun e w' => e = .returned (.bool (abB root key zs k a b c d)) ∧ Below w.heap.size w w' := by
  have KV := hidden h.kp
  have KW := hidden (below_kp w)
  have KL := hidden (below_kp w)
  have HRe : Hid (∀ w', Reads w' v zs → Calls Tryd.prog 8 #[.agg (B root), .agg (B key), v] w' fun e w'' => e = .returned (.tuple #[.agg (sdP (rdB root key zs k a b c d) (rdV root key zs k a b c d)).toArray, .int .i64 (rdE root key zs k a b c d)]) ∧ Below w'.heap.size w' w'') := fun w' h1 => rsaid_any root key v zs k a b c d w' hroot hkey h1 hl hn hN
  have HSr := hidden (hash_sz root hroot.1)
  have HSk : Hid ((Tryd.prog.info? 24).map (·.size) = some (B key).size) := by show _ = _; rw [B_size, hkey.1]; exact sz_path
  have HSD := hidden (said_sz (rdB root key zs k a b c d) (rdV root key zs k a b c d) (rdV_length root key zs k a b c d hN.lb))
  have HOn := hidden (said_one (rdB root key zs k a b c d) (rdV root key zs k a b c d))
  have HTh : Hid (∀ w g t, Blk w g t (sdP (rdB root key zs k a b c d) (rdV root key zs k a b c d)).toArray → w.cell? ⟨g, 0, none⟩ = some (.bool (rdB root key zs k a b c d))) := fun w g t h => said_there h
  obtain ⟨va, vc, rfl, _⟩ := h
  obtain ⟨l, hll⟩ : ∃ l, l = zs.length := ⟨_, rfl⟩
  rw [← hll] at KV HRe ⊢
  unfold abB
  generalize (sdP (rdB root key zs k a b c d) (rdV root key zs k a b c d)).toArray = SD at *
  generalize rdB root key zs k a b c d = T at *
  generalize rdE root key zs k a b c d = E at *
  clear hll hl hn hN hroot hkey
  by_cases hE : E = 0
  · subst hE
    have zE : ((0 : Int) == 0) = true := rfl
    rw [decide_eq_true rfl, Bool.true_and]
    go_enter Tryd.func12, Tryd.ntmps12
    go_wp2_with (first
      | ((with_reducible refine at_bxd 3 ?_); refine wpList_bx _ rfl _ _ rfl _ rfl ?_; intro x1 g3 hg1 hl1 bq1 q1; replace KV := hidden (KV.out.step q1); replace KW := hidden (KW.out.step q1); replace KL := hidden (KL.out.step q1); have K3 := hidden bq1.kp; clear hg1 hl1 bq1 q1)
      | ((with_reducible refine at_bxd 4 ?_); refine wpList_bx _ rfl _ _ rfl _ rfl ?_; intro x2 g4 hg2 hl2 bq2 q2; replace KV := hidden (KV.out.step q2); replace KW := hidden (KW.out.step q2); replace KL := hidden (KL.out.step q2); replace K3 := hidden (K3.out.step q2); have K4 := hidden bq2.kp; clear hg2 hl2 bq2 q2)
      | ((with_reducible refine at_ldd 10 3 ?_); refine wpList_ld _ rfl _ _ rfl g3 _ rfl K3.out.now _ _ Tryd.underlying23 HSr.out.1 ?_)
      | ((with_reducible refine at_ldd 11 4 ?_); refine wpList_ld _ rfl _ _ rfl g4 _ rfl K4.out.now _ _ Tryd.underlying24 HSk.out ?_)
      | ((with_reducible refine at_ald 7 ?_); refine wpList_al _ rfl _ rfl _ zero_said ?_; intro x4 g7 hg7 hl4 bq4 q4; clear hl4)
      | ((with_reducible refine at_st 7 ?_); refine wpList_sto _ rfl _ _ _ rfl g7 _ (SD) rfl rfl bq4 HSD.out.1 HSD.out.2 HOn.out ?_; intro x5 by5 r5; have q5 := below_row q4 r5 hg7; replace KV := hidden (KV.out.step q5); replace KW := hidden (KW.out.step q5); replace KL := hidden (KL.out.step q5); replace K3 := hidden (K3.out.step q5); replace K4 := hidden (K4.out.step q5); have K7 := hidden by5.kp; have c7 := HTh.out _ _ _ K7.out.now; clear q5 q4 r5 by5 bq4 hg7)
      | (go_at_call 8; refine (HRe.out _ KV.out.now).mono ?_; rintro e x3 ⟨rfl, q3⟩; replace KV := hidden (KV.out.step q3); replace KW := hidden (KW.out.step q3); replace KL := hidden (KL.out.step q3); replace K3 := hidden (K3.out.step q3); replace K4 := hidden (K4.out.step q3); have mk_frootcellarref18Read_1 : Hid True := trivial; clear q3))
    go_ret
    exact ⟨rfl, KW.out.now⟩
  · have zE : (E == 0) = false := by simp [hE]
    rw [decide_eq_false hE, Bool.false_and]
    clear hE
    go_enter Tryd.func12, Tryd.ntmps12
    go_wp2_with (first
      | ((with_reducible refine at_bxd 3 ?_); refine wpList_bx _ rfl _ _ rfl _ rfl ?_; intro x1 g3 hg1 hl1 bq1 q1; replace KV := hidden (KV.out.step q1); replace KW := hidden (KW.out.step q1); replace KL := hidden (KL.out.step q1); have K3 := hidden bq1.kp; clear hg1 hl1 bq1 q1)
      | ((with_reducible refine at_bxd 4 ?_); refine wpList_bx _ rfl _ _ rfl _ rfl ?_; intro x2 g4 hg2 hl2 bq2 q2; replace KV := hidden (KV.out.step q2); replace KW := hidden (KW.out.step q2); replace KL := hidden (KL.out.step q2); replace K3 := hidden (K3.out.step q2); have K4 := hidden bq2.kp; clear hg2 hl2 bq2 q2)
      | ((with_reducible refine at_ldd 10 3 ?_); refine wpList_ld _ rfl _ _ rfl g3 _ rfl K3.out.now _ _ Tryd.underlying23 HSr.out.1 ?_)
      | ((with_reducible refine at_ldd 11 4 ?_); refine wpList_ld _ rfl _ _ rfl g4 _ rfl K4.out.now _ _ Tryd.underlying24 HSk.out ?_)
      | ((with_reducible refine at_ald 7 ?_); refine wpList_al _ rfl _ rfl _ zero_said ?_; intro x4 g7 hg7 hl4 bq4 q4; clear hl4)
      | ((with_reducible refine at_st 7 ?_); refine wpList_sto _ rfl _ _ _ rfl g7 _ (SD) rfl rfl bq4 HSD.out.1 HSD.out.2 HOn.out ?_; intro x5 by5 r5; have q5 := below_row q4 r5 hg7; replace KV := hidden (KV.out.step q5); replace KW := hidden (KW.out.step q5); replace KL := hidden (KL.out.step q5); replace K3 := hidden (K3.out.step q5); replace K4 := hidden (K4.out.step q5); have K7 := hidden by5.kp; have c7 := HTh.out _ _ _ K7.out.now; clear q5 q4 r5 by5 bq4 hg7)
      | (go_at_call 8; refine (HRe.out _ KV.out.now).mono ?_; rintro e x3 ⟨rfl, q3⟩; replace KV := hidden (KV.out.step q3); replace KW := hidden (KW.out.step q3); replace KL := hidden (KL.out.step q3); replace K3 := hidden (K3.out.step q3); replace K4 := hidden (K4.out.step q3); have mk_frootcellarref18Read_1 : Hid True := trivial; clear q3))
    go_ret
    exact ⟨rfl, KW.out.now⟩

set_option maxHeartbeats 8000000 in
theorem rpresent_any (root key : List Int) (u v : Value) (ys zs : List Int) (k : Int) (a b c d : List Int) (w : World) (hroot : Key root) (hkey : Key key) (hu : Reads w u ys) (h : Reads w v zs) (hl : zs.length ≤ 140737488355328 - 4096) (hn : dpN zs = nd k a b c d) (hN : Nd k a b c d) :
    Calls Tryd.prog 10 #[.agg (B root), .agg (B key), u, v] w fun e w' => e = .returned (.bool (psB root key ys zs k a b c d)) ∧ Below w.heap.size w w' := by
  have KU := hidden hu.kp
  have KV := hidden h.kp
  have KW := hidden (below_kp w)
  have KL := hidden (below_kp w)
  have HRe : Hid (∀ w', Reads w' v zs → Calls Tryd.prog 8 #[.agg (B root), .agg (B key), v] w' fun e w'' => e = .returned (.tuple #[.agg (sdP (rdB root key zs k a b c d) (rdV root key zs k a b c d)).toArray, .int .i64 (rdE root key zs k a b c d)]) ∧ Below w'.heap.size w' w'') := fun w' h1 => rsaid_any root key v zs k a b c d w' hroot hkey h1 hl hn hN
  have hVa : ys.length ≤ 1024 → ∀ w', Reads w' u ys → Calls Tryd.prog 22 #[u] w' fun e w'' => e = .returned (.agg (B (vaD ys))) ∧ Below w'.heap.size w' w'' := fun h0 w' h1 => refValue_any u ys w' h1 (by omega)
  have HSr := hidden (hash_sz root hroot.1)
  have HSk : Hid ((Tryd.prog.info? 24).map (·.size) = some (B key).size) := by show _ = _; rw [B_size, hkey.1]; exact sz_path
  have hvl := rdV_length root key zs k a b c d hN.lb
  have hdl : (vaD ys).length = 32 := dig_length _
  have HSD := hidden (said_sz (rdB root key zs k a b c d) (rdV root key zs k a b c d) hvl)
  have HOn := hidden (said_one (rdB root key zs k a b c d) (rdV root key zs k a b c d))
  have HTh : Hid (∀ w g t, Blk w g t (sdP (rdB root key zs k a b c d) (rdV root key zs k a b c d)).toArray → w.cell? ⟨g, 0, none⟩ = some (.bool (rdB root key zs k a b c d))) := fun w g t h => said_there h
  have HRv : Hid (∀ w g t, Blk w g t (sdP (rdB root key zs k a b c d) (rdV root key zs k a b c d)).toArray → w.rangeAt g 1 ((rdV root key zs k a b c d).map (Value.int .u8))) := fun w g t h => said_value h
  have HLv : Hid ((Tryd.prog.info? 23).map (·.size) = some (B (rdV root key zs k a b c d)).toList.length) := hash_ln _ hvl
  have hqV : ∀ w, (Op.equalIn 10000 23 (.agg (B (rdV root key zs k a b c d))) (.agg (B (vaD ys)))).run Tryd.prog w = .ok (decide (rdV root key zs k a b c d = vaD ys)) w := hash_eq _ _ hvl hdl
  have hE0 : rdE root key zs k a b c d ≠ 0 → rdB root key zs k a b c d = false := rdB_ok
  obtain ⟨va, vc, rfl, _⟩ := h
  obtain ⟨ua, uc, rfl, _⟩ := hu
  obtain ⟨l, hll⟩ : ∃ l, l = zs.length := ⟨_, rfl⟩
  obtain ⟨m, hmm⟩ : ∃ m, m = ys.length := ⟨_, rfl⟩
  rw [← hll] at KV HRe ⊢
  unfold psB
  rw [← hmm] at KU hVa ⊢
  generalize vaD ys = D at *
  generalize (sdP (rdB root key zs k a b c d) (rdV root key zs k a b c d)).toArray = SD at *
  generalize rdB root key zs k a b c d = T at *
  generalize rdV root key zs k a b c d = V at *
  generalize decide (V = D) = R at *
  generalize rdE root key zs k a b c d = E at *
  clear hll hl hn hN hroot hkey hvl hdl
  by_cases h0 : E = 0
  · subst h0
    have zE : ((0 : Int) == 0) = true := rfl
    clear hE0
    cases T with
    | false =>
      rw [Bool.false_and, Bool.and_false]
      clear hVa hmm
      go_enter Tryd.func10, Tryd.ntmps10
      go_wp2_with (first
        | ((with_reducible refine at_bxd 4 ?_); refine wpList_bx _ rfl _ _ rfl _ rfl ?_; intro x1 g4 hg1 hl1 bq1 q1; replace KU := hidden (KU.out.step q1); replace KV := hidden (KV.out.step q1); replace KW := hidden (KW.out.step q1); replace KL := hidden (KL.out.step q1); have K4 := hidden bq1.kp; clear hg1 hl1 bq1 q1)
        | ((with_reducible refine at_bxd 5 ?_); refine wpList_bx _ rfl _ _ rfl _ rfl ?_; intro x2 g5 hg2 hl2 bq2 q2; replace KU := hidden (KU.out.step q2); replace KV := hidden (KV.out.step q2); replace KW := hidden (KW.out.step q2); replace KL := hidden (KL.out.step q2); replace K4 := hidden (K4.out.step q2); have K5 := hidden bq2.kp; clear hg2 hl2 bq2 q2)
        | ((with_reducible refine at_ldd 12 4 ?_); refine wpList_ld _ rfl _ _ rfl g4 _ rfl K4.out.now _ _ Tryd.underlying23 HSr.out.1 ?_)
        | ((with_reducible refine at_ldd 13 5 ?_); refine wpList_ld _ rfl _ _ rfl g5 _ rfl K5.out.now _ _ Tryd.underlying24 HSk.out ?_)
        | ((with_reducible refine at_ald 9 ?_); refine wpList_al _ rfl _ rfl _ zero_said ?_; intro x4 g9 hg9 hl4 bq4 q4; clear hl4)
        | ((with_reducible refine at_st 9 ?_); refine wpList_sto _ rfl _ _ _ rfl g9 _ (SD) rfl rfl bq4 HSD.out.1 HSD.out.2 HOn.out ?_; intro x5 by5 r5; have q5 := below_row q4 r5 hg9; replace KU := hidden (KU.out.step q5); replace KV := hidden (KV.out.step q5); replace KW := hidden (KW.out.step q5); replace KL := hidden (KL.out.step q5); replace K4 := hidden (K4.out.step q5); replace K5 := hidden (K5.out.step q5); have K9 := hidden by5.kp; clear q5 q4 r5 by5 bq4 hg9)
        | (go_at_call 8; refine (HRe.out _ KV.out.now).mono ?_; rintro e x3 ⟨rfl, q3⟩; replace KU := hidden (KU.out.step q3); replace KV := hidden (KV.out.step q3); replace KW := hidden (KW.out.step q3); replace KL := hidden (KL.out.step q3); replace K4 := hidden (K4.out.step q3); replace K5 := hidden (K5.out.step q3); have mk_frootcellarref18Read_1 : Hid True := trivial; clear q3))
      refine wp_region_held_drew (S := fun w' => Below x5.heap.size x5 w') (by kernel_rfl) (below_drewN (Below.refl _ _) 1) (fun hHeld => ?_)
      refine wpAnyH_take (i := 0) (v := .int .i64 0) rfl (by kernel_rfl) (by kernel_rfl) (by kernel_rfl) (fun _ _ _ h => h) (Or.inl ⟨by rfl, fun w hS => by go_simp⟩) hHeld ?_
      simp only [Act.put, List.getElem_toArray, List.getElem_cons_zero, List.setIfInBounds_toArray, List.set_cons_zero, List.set_cons_succ]
      refine wpAnyH_take (i := 1) (v := .bool true) rfl (by kernel_rfl) (by kernel_rfl) (by kernel_rfl) (fun _ _ _ h => h) (Or.inl ⟨by rfl, fun w hS => by go_simp⟩) hHeld ?_
      simp only [Act.put, List.getElem_toArray, List.getElem_cons_zero, List.getElem_cons_succ, List.setIfInBounds_toArray, List.set_cons_zero, List.set_cons_succ]
      refine wpAnyH_take (i := 2) (v := .bool true) rfl (by kernel_rfl) (by kernel_rfl) (by kernel_rfl) (fun _ _ _ h => h) (Or.inl ⟨by rfl, fun w hS => by go_simp⟩) hHeld ?_
      simp only [Act.put, List.getElem_toArray, List.getElem_cons_zero, List.getElem_cons_succ, List.setIfInBounds_toArray, List.set_cons_zero, List.set_cons_succ]
      refine wpAnyH_take (i := 3) (v := .pointer (some ⟨g9, 0, none⟩)) rfl (by kernel_rfl) (by kernel_rfl) (by kernel_rfl) (fun _ _ _ h => h) (Or.inl ⟨by rfl, fun w hS => by go_simp⟩) hHeld ?_
      simp only [Act.put, List.getElem_toArray, List.getElem_cons_zero, List.getElem_cons_succ, List.setIfInBounds_toArray, List.set_cons_zero, List.set_cons_succ]
      refine wpAnyH_take (i := 4) (v := .bool false) rfl (by kernel_rfl) (by kernel_rfl) (by kernel_rfl) (fun _ _ _ h => h) (Or.inl ⟨by rfl, fun w hS => by (have c9 := HTh.out _ _ _ (K9.out _ hS); go_simp)⟩) hHeld ?_
      simp only [Act.put, List.getElem_toArray, List.getElem_cons_zero, List.getElem_cons_succ, List.setIfInBounds_toArray, List.set_cons_zero, List.set_cons_succ]
      refine wpAnyH_take (i := 5) (v := .bool false) rfl (by kernel_rfl) (by kernel_rfl) (by kernel_rfl) (fun _ _ _ h => h) (Or.inl ⟨by rfl, fun w hS => by go_simp⟩) hHeld ?_
      simp only [Act.put, List.getElem_toArray, List.getElem_cons_zero, List.getElem_cons_succ, List.setIfInBounds_toArray, List.set_cons_zero, List.set_cons_succ]
      refine wpAnyH_take (i := 6) (v := .bool false) rfl (by kernel_rfl) (by kernel_rfl) (by kernel_rfl) (fun _ _ _ h => h) (Or.inl ⟨by rfl, fun w hS => by go_simp⟩) hHeld ?_
      simp only [Act.put, List.getElem_toArray, List.getElem_cons_zero, List.getElem_cons_succ, List.setIfInBounds_toArray, List.set_cons_zero, List.set_cons_succ]
      refine wpAnyH_take (i := 7) (v := undef) rfl (by kernel_rfl) (by kernel_rfl) (by kernel_rfl) (fun _ _ _ h => h) (Or.inr ⟨by rfl, rfl⟩) hHeld ?_
      simp only [Act.put, List.getElem_toArray, List.getElem_cons_zero, List.getElem_cons_succ, List.setIfInBounds_toArray, List.set_cons_zero, List.set_cons_succ]
      refine wpAnyH_take (i := 8) (v := undef) rfl (by kernel_rfl) (by kernel_rfl) (by kernel_rfl) (fun _ _ _ h => h) (Or.inr ⟨by rfl, rfl⟩) hHeld ?_
      simp only [Act.put, List.getElem_toArray, List.getElem_cons_zero, List.getElem_cons_succ, List.setIfInBounds_toArray, List.set_cons_zero, List.set_cons_succ]
      refine wpAnyH_take (i := 9) (v := undef) rfl (by kernel_rfl) (by kernel_rfl) (by kernel_rfl) (fun _ _ _ h => h) (Or.inr ⟨by rfl, rfl⟩) hHeld ?_
      simp only [Act.put, List.getElem_toArray, List.getElem_cons_zero, List.getElem_cons_succ, List.setIfInBounds_toArray, List.set_cons_zero, List.set_cons_succ]
      refine wpAnyH_take (i := 10) (v := .bool false) rfl (by kernel_rfl) (by kernel_rfl) (by kernel_rfl) (fun _ _ _ h => h) (Or.inl ⟨by rfl, fun w hS => by go_simp⟩) hHeld ?_
      simp only [Act.put, List.getElem_toArray, List.getElem_cons_zero, List.getElem_cons_succ, List.setIfInBounds_toArray, List.set_cons_zero, List.set_cons_succ]
      refine wpAnyH_take (i := 11) (v := .bool false) rfl (by kernel_rfl) (by kernel_rfl) (by kernel_rfl) (fun _ _ _ h => h) (Or.inl ⟨by rfl, fun w hS => by go_simp⟩) hHeld ?_
      simp only [Act.put, List.getElem_toArray, List.getElem_cons_zero, List.getElem_cons_succ, List.setIfInBounds_toArray, List.set_cons_zero, List.set_cons_succ]
      refine wpAnyH_take (i := 12) (v := undef) rfl (by kernel_rfl) (by kernel_rfl) (by kernel_rfl) (fun _ _ _ h => h) (Or.inr ⟨by rfl, rfl⟩) hHeld ?_
      simp only [Act.put, List.getElem_toArray, List.getElem_cons_zero, List.getElem_cons_succ, List.setIfInBounds_toArray, List.set_cons_zero, List.set_cons_succ]
      refine wpAnyH_take (i := 13) (v := undef) rfl (by kernel_rfl) (by kernel_rfl) (by kernel_rfl) (fun _ _ _ h => h) (Or.inr ⟨by rfl, rfl⟩) hHeld ?_
      simp only [Act.put, List.getElem_toArray, List.getElem_cons_zero, List.getElem_cons_succ, List.setIfInBounds_toArray, List.set_cons_zero, List.set_cons_succ]
      refine wpAnyH_take (i := 14) (v := undef) rfl (by kernel_rfl) (by kernel_rfl) (by kernel_rfl) (fun _ _ _ h => h) (Or.inr ⟨by rfl, rfl⟩) hHeld ?_
      simp only [Act.put, List.getElem_toArray, List.getElem_cons_zero, List.getElem_cons_succ, List.setIfInBounds_toArray, List.set_cons_zero, List.set_cons_succ]
      refine wpAnyH_take (i := 15) (v := undef) rfl (by kernel_rfl) (by kernel_rfl) (by kernel_rfl) (fun _ _ _ h => h) (Or.inr ⟨by rfl, rfl⟩) hHeld ?_
      simp only [Act.put, List.getElem_toArray, List.getElem_cons_zero, List.getElem_cons_succ, List.setIfInBounds_toArray, List.set_cons_zero, List.set_cons_succ]
      refine wpAnyH_take (i := 16) (v := undef) rfl (by kernel_rfl) (by kernel_rfl) (by kernel_rfl) (fun _ _ _ h => h) (Or.inr ⟨by rfl, rfl⟩) hHeld ?_
      simp only [Act.put, List.getElem_toArray, List.getElem_cons_zero, List.getElem_cons_succ, List.setIfInBounds_toArray, List.set_cons_zero, List.set_cons_succ]
      refine wpAnyH_take (i := 17) (v := .bool false) rfl (by kernel_rfl) (by kernel_rfl) (by kernel_rfl) (fun _ _ _ h => h) (Or.inl ⟨by rfl, fun w hS => by go_simp⟩) hHeld ?_
      simp only [Act.put, List.getElem_toArray, List.getElem_cons_zero, List.getElem_cons_succ, List.setIfInBounds_toArray, List.set_cons_zero, List.set_cons_succ]
      refine wpAnyH_take (i := 18) (v := .bool false) rfl (by kernel_rfl) (by kernel_rfl) (by kernel_rfl) (fun _ _ _ h => h) (Or.inl ⟨by rfl, fun w hS => by go_simp⟩) hHeld ?_
      simp only [Act.put, List.getElem_toArray, List.getElem_cons_zero, List.getElem_cons_succ, List.setIfInBounds_toArray, List.set_cons_zero, List.set_cons_succ]
      refine wpAnyH_done (by kernel_rfl) ?_ _
      go_wp2
      go_ret
      exact ⟨rfl, (KW.out.step hHeld).now⟩
    | true =>
      rw [Bool.true_and]
      by_cases hm : m ≤ 1024
      · have z1 : (m : Int) ≤ (1024 : Int) := by omega
        rw [decide_eq_true hm, Bool.true_and]
        have HVa := hidden (hVa hm)
        clear hVa hm hmm
        go_enter Tryd.func10, Tryd.ntmps10
        go_wp2_with (first
          | ((with_reducible refine at_bxd 4 ?_); refine wpList_bx _ rfl _ _ rfl _ rfl ?_; intro x1 g4 hg1 hl1 bq1 q1; replace KU := hidden (KU.out.step q1); replace KV := hidden (KV.out.step q1); replace KW := hidden (KW.out.step q1); replace KL := hidden (KL.out.step q1); have K4 := hidden bq1.kp; clear hg1 hl1 bq1 q1)
          | ((with_reducible refine at_bxd 5 ?_); refine wpList_bx _ rfl _ _ rfl _ rfl ?_; intro x2 g5 hg2 hl2 bq2 q2; replace KU := hidden (KU.out.step q2); replace KV := hidden (KV.out.step q2); replace KW := hidden (KW.out.step q2); replace KL := hidden (KL.out.step q2); replace K4 := hidden (K4.out.step q2); have K5 := hidden bq2.kp; clear hg2 hl2 bq2 q2)
          | ((with_reducible refine at_ldd 12 4 ?_); refine wpList_ld _ rfl _ _ rfl g4 _ rfl K4.out.now _ _ Tryd.underlying23 HSr.out.1 ?_)
          | ((with_reducible refine at_ldd 13 5 ?_); refine wpList_ld _ rfl _ _ rfl g5 _ rfl K5.out.now _ _ Tryd.underlying24 HSk.out ?_)
          | ((with_reducible refine at_ald 9 ?_); refine wpList_al _ rfl _ rfl _ zero_said ?_; intro x4 g9 hg9 hl4 bq4 q4; clear hl4)
          | ((with_reducible refine at_st 9 ?_); refine wpList_sto _ rfl _ _ _ rfl g9 _ (SD) rfl rfl bq4 HSD.out.1 HSD.out.2 HOn.out ?_; intro x5 by5 r5; have q5 := below_row q4 r5 hg9; replace KU := hidden (KU.out.step q5); replace KV := hidden (KV.out.step q5); replace KW := hidden (KW.out.step q5); replace KL := hidden (KL.out.step q5); replace K4 := hidden (K4.out.step q5); replace K5 := hidden (K5.out.step q5); have K9 := hidden by5.kp; clear q5 q4 r5 by5 bq4 hg9)
          | (go_at_call 8; refine (HRe.out _ KV.out.now).mono ?_; rintro e x3 ⟨rfl, q3⟩; replace KU := hidden (KU.out.step q3); replace KV := hidden (KV.out.step q3); replace KW := hidden (KW.out.step q3); replace KL := hidden (KL.out.step q3); replace K4 := hidden (K4.out.step q3); replace K5 := hidden (K5.out.step q3); have mk_frootcellarref18Read_1 : Hid True := trivial; clear q3))
        refine wp_region_held_drew (S := fun w' => Below x5.heap.size x5 w') (by kernel_rfl) (below_drewN (Below.refl _ _) 1) (fun hHeld => ?_)
        refine wpAnyH_take (i := 0) (v := .int .i64 0) rfl (by kernel_rfl) (by kernel_rfl) (by kernel_rfl) (fun _ _ _ h => h) (Or.inl ⟨by rfl, fun w hS => by go_simp⟩) hHeld ?_
        simp only [Act.put, List.getElem_toArray, List.getElem_cons_zero, List.setIfInBounds_toArray, List.set_cons_zero, List.set_cons_succ]
        refine wpAnyH_take (i := 1) (v := .bool true) rfl (by kernel_rfl) (by kernel_rfl) (by kernel_rfl) (fun _ _ _ h => h) (Or.inl ⟨by rfl, fun w hS => by go_simp⟩) hHeld ?_
        simp only [Act.put, List.getElem_toArray, List.getElem_cons_zero, List.getElem_cons_succ, List.setIfInBounds_toArray, List.set_cons_zero, List.set_cons_succ]
        refine wpAnyH_take (i := 2) (v := .bool true) rfl (by kernel_rfl) (by kernel_rfl) (by kernel_rfl) (fun _ _ _ h => h) (Or.inl ⟨by rfl, fun w hS => by go_simp⟩) hHeld ?_
        simp only [Act.put, List.getElem_toArray, List.getElem_cons_zero, List.getElem_cons_succ, List.setIfInBounds_toArray, List.set_cons_zero, List.set_cons_succ]
        refine wpAnyH_take (i := 3) (v := .pointer (some ⟨g9, 0, none⟩)) rfl (by kernel_rfl) (by kernel_rfl) (by kernel_rfl) (fun _ _ _ h => h) (Or.inl ⟨by rfl, fun w hS => by go_simp⟩) hHeld ?_
        simp only [Act.put, List.getElem_toArray, List.getElem_cons_zero, List.getElem_cons_succ, List.setIfInBounds_toArray, List.set_cons_zero, List.set_cons_succ]
        refine wpAnyH_take (i := 4) (v := .bool true) rfl (by kernel_rfl) (by kernel_rfl) (by kernel_rfl) (fun _ _ _ h => h) (Or.inl ⟨by rfl, fun w hS => by (have c9 := HTh.out _ _ _ (K9.out _ hS); go_simp)⟩) hHeld ?_
        simp only [Act.put, List.getElem_toArray, List.getElem_cons_zero, List.getElem_cons_succ, List.setIfInBounds_toArray, List.set_cons_zero, List.set_cons_succ]
        refine wpAnyH_take (i := 5) (v := .bool true) rfl (by kernel_rfl) (by kernel_rfl) (by kernel_rfl) (fun _ _ _ h => h) (Or.inl ⟨by rfl, fun w hS => by go_simp⟩) hHeld ?_
        simp only [Act.put, List.getElem_toArray, List.getElem_cons_zero, List.getElem_cons_succ, List.setIfInBounds_toArray, List.set_cons_zero, List.set_cons_succ]
        refine wpAnyH_take (i := 6) (v := .bool true) rfl (by kernel_rfl) (by kernel_rfl) (by kernel_rfl) (fun _ _ _ h => h) (Or.inl ⟨by rfl, fun w hS => by go_simp⟩) hHeld ?_
        simp only [Act.put, List.getElem_toArray, List.getElem_cons_zero, List.getElem_cons_succ, List.setIfInBounds_toArray, List.set_cons_zero, List.set_cons_succ]
        refine wpAnyH_take (i := 7) (v := .slice ua m uc) rfl (by kernel_rfl) (by kernel_rfl) (by kernel_rfl) (fun _ _ _ h => h) (Or.inl ⟨by rfl, fun w hS => by go_simp⟩) hHeld ?_
        simp only [Act.put, List.getElem_toArray, List.getElem_cons_zero, List.getElem_cons_succ, List.setIfInBounds_toArray, List.set_cons_zero, List.set_cons_succ]
        refine wpAnyH_take (i := 8) (v := .int .i64 (m : Int)) rfl (by kernel_rfl) (by kernel_rfl) (by kernel_rfl) (fun _ _ _ h => h) (Or.inl ⟨by rfl, fun w hS => by go_simp⟩) hHeld ?_
        simp only [Act.put, List.getElem_toArray, List.getElem_cons_zero, List.getElem_cons_succ, List.setIfInBounds_toArray, List.set_cons_zero, List.set_cons_succ]
        refine wpAnyH_take (i := 9) (v := .bool true) rfl (by kernel_rfl) (by kernel_rfl) (by kernel_rfl) (fun _ _ _ h => h) (Or.inl ⟨by rfl, fun w hS => by go_simp⟩) hHeld ?_
        simp only [Act.put, List.getElem_toArray, List.getElem_cons_zero, List.getElem_cons_succ, List.setIfInBounds_toArray, List.set_cons_zero, List.set_cons_succ]
        refine wpAnyH_take (i := 10) (v := .bool true) rfl (by kernel_rfl) (by kernel_rfl) (by kernel_rfl) (fun _ _ _ h => h) (Or.inl ⟨by rfl, fun w hS => by go_simp⟩) hHeld ?_
        simp only [Act.put, List.getElem_toArray, List.getElem_cons_zero, List.getElem_cons_succ, List.setIfInBounds_toArray, List.set_cons_zero, List.set_cons_succ]
        refine wpAnyH_take (i := 11) (v := .bool true) rfl (by kernel_rfl) (by kernel_rfl) (by kernel_rfl) (fun _ _ _ h => h) (Or.inl ⟨by rfl, fun w hS => by go_simp⟩) hHeld ?_
        simp only [Act.put, List.getElem_toArray, List.getElem_cons_zero, List.getElem_cons_succ, List.setIfInBounds_toArray, List.set_cons_zero, List.set_cons_succ]
        refine wpAnyH_take (i := 12) (v := .pointer (some ⟨g9, 1, none⟩)) rfl (by kernel_rfl) (by kernel_rfl) (by kernel_rfl) (fun _ _ _ h => h) (Or.inl ⟨by rfl, fun w hS => by go_simp⟩) hHeld ?_
        simp only [Act.put, List.getElem_toArray, List.getElem_cons_zero, List.getElem_cons_succ, List.setIfInBounds_toArray, List.set_cons_zero, List.set_cons_succ]
        refine wpAnyH_take (i := 13) (v := .agg (B V)) rfl (by kernel_rfl) (by kernel_rfl) (by kernel_rfl) (fun _ _ _ h => h) (yieldsIf_load_mid rfl 23 (.tmp 30) rfl g9 1 rfl (B V).toList _ (fun w hS => HRv.out _ _ _ (K9.out _ hS)) Tryd.underlying23 rfl HLv.out) hHeld ?_
        simp only [Act.put, List.getElem_toArray, List.getElem_cons_zero, List.getElem_cons_succ, List.setIfInBounds_toArray, List.set_cons_zero, List.set_cons_succ]
        refine wpAnyH_take (i := 14) (v := .slice ua m uc) rfl (by kernel_rfl) (by kernel_rfl) (by kernel_rfl) (fun _ _ _ h => h) (Or.inl ⟨by rfl, fun w hS => by go_simp⟩) hHeld ?_
        simp only [Act.put, List.getElem_toArray, List.getElem_cons_zero, List.getElem_cons_succ, List.setIfInBounds_toArray, List.set_cons_zero, List.set_cons_succ]
        refine wpAnyH_ready (rs := [15]) (by kernel_rfl) (by simp) ?_
        refine AllReadyH.cons rfl (fun KQ hK => ?_) AllReadyH.nil
        go_simp
        refine (HVa.out _ (KU.out _ hHeld)).mono ?_
        rintro e y1 ⟨rfl, a1⟩
        refine hK.out _ _ (grow_trans hHeld a1) (fun hHeld => ?_)
        clear hK KQ
        refine wpAnyH_take (i := 16) (v := .bool R) rfl (by kernel_rfl) (by kernel_rfl) (by kernel_rfl) (fun _ _ _ h => h) (Or.inl ⟨by rfl, fun w hS => by go_simp⟩) hHeld ?_
        simp only [Act.put, List.getElem_toArray, List.getElem_cons_zero, List.getElem_cons_succ, List.setIfInBounds_toArray, List.set_cons_zero, List.set_cons_succ]
        refine wpAnyH_take (i := 17) (v := .bool R) rfl (by kernel_rfl) (by kernel_rfl) (by kernel_rfl) (fun _ _ _ h => h) (Or.inl ⟨by rfl, fun w hS => by go_simp⟩) hHeld ?_
        simp only [Act.put, List.getElem_toArray, List.getElem_cons_zero, List.getElem_cons_succ, List.setIfInBounds_toArray, List.set_cons_zero, List.set_cons_succ]
        refine wpAnyH_take (i := 18) (v := .bool R) rfl (by kernel_rfl) (by kernel_rfl) (by kernel_rfl) (fun _ _ _ h => h) (Or.inl ⟨by rfl, fun w hS => by go_simp⟩) hHeld ?_
        simp only [Act.put, List.getElem_toArray, List.getElem_cons_zero, List.getElem_cons_succ, List.setIfInBounds_toArray, List.set_cons_zero, List.set_cons_succ]
        refine wpAnyH_done (by kernel_rfl) ?_ _
        go_wp2
        go_ret
        exact ⟨rfl, (KW.out.step hHeld).now⟩
      · have z1 : ¬ (m : Int) ≤ (1024 : Int) := by omega
        rw [decide_eq_false hm, Bool.false_and]
        clear hVa hm hmm
        go_enter Tryd.func10, Tryd.ntmps10
        go_wp2_with (first
          | ((with_reducible refine at_bxd 4 ?_); refine wpList_bx _ rfl _ _ rfl _ rfl ?_; intro x1 g4 hg1 hl1 bq1 q1; replace KU := hidden (KU.out.step q1); replace KV := hidden (KV.out.step q1); replace KW := hidden (KW.out.step q1); replace KL := hidden (KL.out.step q1); have K4 := hidden bq1.kp; clear hg1 hl1 bq1 q1)
          | ((with_reducible refine at_bxd 5 ?_); refine wpList_bx _ rfl _ _ rfl _ rfl ?_; intro x2 g5 hg2 hl2 bq2 q2; replace KU := hidden (KU.out.step q2); replace KV := hidden (KV.out.step q2); replace KW := hidden (KW.out.step q2); replace KL := hidden (KL.out.step q2); replace K4 := hidden (K4.out.step q2); have K5 := hidden bq2.kp; clear hg2 hl2 bq2 q2)
          | ((with_reducible refine at_ldd 12 4 ?_); refine wpList_ld _ rfl _ _ rfl g4 _ rfl K4.out.now _ _ Tryd.underlying23 HSr.out.1 ?_)
          | ((with_reducible refine at_ldd 13 5 ?_); refine wpList_ld _ rfl _ _ rfl g5 _ rfl K5.out.now _ _ Tryd.underlying24 HSk.out ?_)
          | ((with_reducible refine at_ald 9 ?_); refine wpList_al _ rfl _ rfl _ zero_said ?_; intro x4 g9 hg9 hl4 bq4 q4; clear hl4)
          | ((with_reducible refine at_st 9 ?_); refine wpList_sto _ rfl _ _ _ rfl g9 _ (SD) rfl rfl bq4 HSD.out.1 HSD.out.2 HOn.out ?_; intro x5 by5 r5; have q5 := below_row q4 r5 hg9; replace KU := hidden (KU.out.step q5); replace KV := hidden (KV.out.step q5); replace KW := hidden (KW.out.step q5); replace KL := hidden (KL.out.step q5); replace K4 := hidden (K4.out.step q5); replace K5 := hidden (K5.out.step q5); have K9 := hidden by5.kp; clear q5 q4 r5 by5 bq4 hg9)
          | (go_at_call 8; refine (HRe.out _ KV.out.now).mono ?_; rintro e x3 ⟨rfl, q3⟩; replace KU := hidden (KU.out.step q3); replace KV := hidden (KV.out.step q3); replace KW := hidden (KW.out.step q3); replace KL := hidden (KL.out.step q3); replace K4 := hidden (K4.out.step q3); replace K5 := hidden (K5.out.step q3); have mk_frootcellarref18Read_1 : Hid True := trivial; clear q3))
        refine wp_region_held_drew (S := fun w' => Below x5.heap.size x5 w') (by kernel_rfl) (below_drewN (Below.refl _ _) 1) (fun hHeld => ?_)
        refine wpAnyH_take (i := 0) (v := .int .i64 0) rfl (by kernel_rfl) (by kernel_rfl) (by kernel_rfl) (fun _ _ _ h => h) (Or.inl ⟨by rfl, fun w hS => by go_simp⟩) hHeld ?_
        simp only [Act.put, List.getElem_toArray, List.getElem_cons_zero, List.setIfInBounds_toArray, List.set_cons_zero, List.set_cons_succ]
        refine wpAnyH_take (i := 1) (v := .bool true) rfl (by kernel_rfl) (by kernel_rfl) (by kernel_rfl) (fun _ _ _ h => h) (Or.inl ⟨by rfl, fun w hS => by go_simp⟩) hHeld ?_
        simp only [Act.put, List.getElem_toArray, List.getElem_cons_zero, List.getElem_cons_succ, List.setIfInBounds_toArray, List.set_cons_zero, List.set_cons_succ]
        refine wpAnyH_take (i := 2) (v := .bool true) rfl (by kernel_rfl) (by kernel_rfl) (by kernel_rfl) (fun _ _ _ h => h) (Or.inl ⟨by rfl, fun w hS => by go_simp⟩) hHeld ?_
        simp only [Act.put, List.getElem_toArray, List.getElem_cons_zero, List.getElem_cons_succ, List.setIfInBounds_toArray, List.set_cons_zero, List.set_cons_succ]
        refine wpAnyH_take (i := 3) (v := .pointer (some ⟨g9, 0, none⟩)) rfl (by kernel_rfl) (by kernel_rfl) (by kernel_rfl) (fun _ _ _ h => h) (Or.inl ⟨by rfl, fun w hS => by go_simp⟩) hHeld ?_
        simp only [Act.put, List.getElem_toArray, List.getElem_cons_zero, List.getElem_cons_succ, List.setIfInBounds_toArray, List.set_cons_zero, List.set_cons_succ]
        refine wpAnyH_take (i := 4) (v := .bool true) rfl (by kernel_rfl) (by kernel_rfl) (by kernel_rfl) (fun _ _ _ h => h) (Or.inl ⟨by rfl, fun w hS => by (have c9 := HTh.out _ _ _ (K9.out _ hS); go_simp)⟩) hHeld ?_
        simp only [Act.put, List.getElem_toArray, List.getElem_cons_zero, List.getElem_cons_succ, List.setIfInBounds_toArray, List.set_cons_zero, List.set_cons_succ]
        refine wpAnyH_take (i := 5) (v := .bool true) rfl (by kernel_rfl) (by kernel_rfl) (by kernel_rfl) (fun _ _ _ h => h) (Or.inl ⟨by rfl, fun w hS => by go_simp⟩) hHeld ?_
        simp only [Act.put, List.getElem_toArray, List.getElem_cons_zero, List.getElem_cons_succ, List.setIfInBounds_toArray, List.set_cons_zero, List.set_cons_succ]
        refine wpAnyH_take (i := 6) (v := .bool true) rfl (by kernel_rfl) (by kernel_rfl) (by kernel_rfl) (fun _ _ _ h => h) (Or.inl ⟨by rfl, fun w hS => by go_simp⟩) hHeld ?_
        simp only [Act.put, List.getElem_toArray, List.getElem_cons_zero, List.getElem_cons_succ, List.setIfInBounds_toArray, List.set_cons_zero, List.set_cons_succ]
        refine wpAnyH_take (i := 7) (v := .slice ua m uc) rfl (by kernel_rfl) (by kernel_rfl) (by kernel_rfl) (fun _ _ _ h => h) (Or.inl ⟨by rfl, fun w hS => by go_simp⟩) hHeld ?_
        simp only [Act.put, List.getElem_toArray, List.getElem_cons_zero, List.getElem_cons_succ, List.setIfInBounds_toArray, List.set_cons_zero, List.set_cons_succ]
        refine wpAnyH_take (i := 8) (v := .int .i64 (m : Int)) rfl (by kernel_rfl) (by kernel_rfl) (by kernel_rfl) (fun _ _ _ h => h) (Or.inl ⟨by rfl, fun w hS => by go_simp⟩) hHeld ?_
        simp only [Act.put, List.getElem_toArray, List.getElem_cons_zero, List.getElem_cons_succ, List.setIfInBounds_toArray, List.set_cons_zero, List.set_cons_succ]
        refine wpAnyH_take (i := 9) (v := .bool false) rfl (by kernel_rfl) (by kernel_rfl) (by kernel_rfl) (fun _ _ _ h => h) (Or.inl ⟨by rfl, fun w hS => by go_simp⟩) hHeld ?_
        simp only [Act.put, List.getElem_toArray, List.getElem_cons_zero, List.getElem_cons_succ, List.setIfInBounds_toArray, List.set_cons_zero, List.set_cons_succ]
        refine wpAnyH_take (i := 10) (v := .bool false) rfl (by kernel_rfl) (by kernel_rfl) (by kernel_rfl) (fun _ _ _ h => h) (Or.inl ⟨by rfl, fun w hS => by go_simp⟩) hHeld ?_
        simp only [Act.put, List.getElem_toArray, List.getElem_cons_zero, List.getElem_cons_succ, List.setIfInBounds_toArray, List.set_cons_zero, List.set_cons_succ]
        refine wpAnyH_take (i := 11) (v := .bool false) rfl (by kernel_rfl) (by kernel_rfl) (by kernel_rfl) (fun _ _ _ h => h) (Or.inl ⟨by rfl, fun w hS => by go_simp⟩) hHeld ?_
        simp only [Act.put, List.getElem_toArray, List.getElem_cons_zero, List.getElem_cons_succ, List.setIfInBounds_toArray, List.set_cons_zero, List.set_cons_succ]
        refine wpAnyH_take (i := 12) (v := undef) rfl (by kernel_rfl) (by kernel_rfl) (by kernel_rfl) (fun _ _ _ h => h) (Or.inr ⟨by rfl, rfl⟩) hHeld ?_
        simp only [Act.put, List.getElem_toArray, List.getElem_cons_zero, List.getElem_cons_succ, List.setIfInBounds_toArray, List.set_cons_zero, List.set_cons_succ]
        refine wpAnyH_take (i := 13) (v := undef) rfl (by kernel_rfl) (by kernel_rfl) (by kernel_rfl) (fun _ _ _ h => h) (Or.inr ⟨by rfl, rfl⟩) hHeld ?_
        simp only [Act.put, List.getElem_toArray, List.getElem_cons_zero, List.getElem_cons_succ, List.setIfInBounds_toArray, List.set_cons_zero, List.set_cons_succ]
        refine wpAnyH_take (i := 14) (v := undef) rfl (by kernel_rfl) (by kernel_rfl) (by kernel_rfl) (fun _ _ _ h => h) (Or.inr ⟨by rfl, rfl⟩) hHeld ?_
        simp only [Act.put, List.getElem_toArray, List.getElem_cons_zero, List.getElem_cons_succ, List.setIfInBounds_toArray, List.set_cons_zero, List.set_cons_succ]
        refine wpAnyH_take (i := 15) (v := undef) rfl (by kernel_rfl) (by kernel_rfl) (by kernel_rfl) (fun _ _ _ h => h) (Or.inr ⟨by rfl, rfl⟩) hHeld ?_
        simp only [Act.put, List.getElem_toArray, List.getElem_cons_zero, List.getElem_cons_succ, List.setIfInBounds_toArray, List.set_cons_zero, List.set_cons_succ]
        refine wpAnyH_take (i := 16) (v := undef) rfl (by kernel_rfl) (by kernel_rfl) (by kernel_rfl) (fun _ _ _ h => h) (Or.inr ⟨by rfl, rfl⟩) hHeld ?_
        simp only [Act.put, List.getElem_toArray, List.getElem_cons_zero, List.getElem_cons_succ, List.setIfInBounds_toArray, List.set_cons_zero, List.set_cons_succ]
        refine wpAnyH_take (i := 17) (v := .bool false) rfl (by kernel_rfl) (by kernel_rfl) (by kernel_rfl) (fun _ _ _ h => h) (Or.inl ⟨by rfl, fun w hS => by go_simp⟩) hHeld ?_
        simp only [Act.put, List.getElem_toArray, List.getElem_cons_zero, List.getElem_cons_succ, List.setIfInBounds_toArray, List.set_cons_zero, List.set_cons_succ]
        refine wpAnyH_take (i := 18) (v := .bool false) rfl (by kernel_rfl) (by kernel_rfl) (by kernel_rfl) (fun _ _ _ h => h) (Or.inl ⟨by rfl, fun w hS => by go_simp⟩) hHeld ?_
        simp only [Act.put, List.getElem_toArray, List.getElem_cons_zero, List.getElem_cons_succ, List.setIfInBounds_toArray, List.set_cons_zero, List.set_cons_succ]
        refine wpAnyH_done (by kernel_rfl) ?_ _
        go_wp2
        go_ret
        exact ⟨rfl, (KW.out.step hHeld).now⟩
  · have zE : (E == 0) = false := by simp [h0]
    rw [hE0 h0, Bool.false_and, Bool.and_false]
    clear hVa hE0 h0 hmm
    go_enter Tryd.func10, Tryd.ntmps10
    go_wp2_with (first
      | ((with_reducible refine at_bxd 4 ?_); refine wpList_bx _ rfl _ _ rfl _ rfl ?_; intro x1 g4 hg1 hl1 bq1 q1; replace KU := hidden (KU.out.step q1); replace KV := hidden (KV.out.step q1); replace KW := hidden (KW.out.step q1); replace KL := hidden (KL.out.step q1); have K4 := hidden bq1.kp; clear hg1 hl1 bq1 q1)
      | ((with_reducible refine at_bxd 5 ?_); refine wpList_bx _ rfl _ _ rfl _ rfl ?_; intro x2 g5 hg2 hl2 bq2 q2; replace KU := hidden (KU.out.step q2); replace KV := hidden (KV.out.step q2); replace KW := hidden (KW.out.step q2); replace KL := hidden (KL.out.step q2); replace K4 := hidden (K4.out.step q2); have K5 := hidden bq2.kp; clear hg2 hl2 bq2 q2)
      | ((with_reducible refine at_ldd 12 4 ?_); refine wpList_ld _ rfl _ _ rfl g4 _ rfl K4.out.now _ _ Tryd.underlying23 HSr.out.1 ?_)
      | ((with_reducible refine at_ldd 13 5 ?_); refine wpList_ld _ rfl _ _ rfl g5 _ rfl K5.out.now _ _ Tryd.underlying24 HSk.out ?_)
      | ((with_reducible refine at_ald 9 ?_); refine wpList_al _ rfl _ rfl _ zero_said ?_; intro x4 g9 hg9 hl4 bq4 q4; clear hl4)
      | ((with_reducible refine at_st 9 ?_); refine wpList_sto _ rfl _ _ _ rfl g9 _ (SD) rfl rfl bq4 HSD.out.1 HSD.out.2 HOn.out ?_; intro x5 by5 r5; have q5 := below_row q4 r5 hg9; replace KU := hidden (KU.out.step q5); replace KV := hidden (KV.out.step q5); replace KW := hidden (KW.out.step q5); replace KL := hidden (KL.out.step q5); replace K4 := hidden (K4.out.step q5); replace K5 := hidden (K5.out.step q5); have K9 := hidden by5.kp; clear q5 q4 r5 by5 bq4 hg9)
      | (go_at_call 8; refine (HRe.out _ KV.out.now).mono ?_; rintro e x3 ⟨rfl, q3⟩; replace KU := hidden (KU.out.step q3); replace KV := hidden (KV.out.step q3); replace KW := hidden (KW.out.step q3); replace KL := hidden (KL.out.step q3); replace K4 := hidden (K4.out.step q3); replace K5 := hidden (K5.out.step q3); have mk_frootcellarref18Read_1 : Hid True := trivial; clear q3))
    refine wp_region_held_drew (S := fun w' => Below x5.heap.size x5 w') (by kernel_rfl) (below_drewN (Below.refl _ _) 1) (fun hHeld => ?_)
    refine wpAnyH_take (i := 0) (v := .int .i64 E) rfl (by kernel_rfl) (by kernel_rfl) (by kernel_rfl) (fun _ _ _ h => h) (Or.inl ⟨by rfl, fun w hS => by go_simp⟩) hHeld ?_
    simp only [Act.put, List.getElem_toArray, List.getElem_cons_zero, List.setIfInBounds_toArray, List.set_cons_zero, List.set_cons_succ]
    refine wpAnyH_take (i := 1) (v := .bool false) rfl (by kernel_rfl) (by kernel_rfl) (by kernel_rfl) (fun _ _ _ h => h) (Or.inl ⟨by rfl, fun w hS => by go_simp⟩) hHeld ?_
    simp only [Act.put, List.getElem_toArray, List.getElem_cons_zero, List.getElem_cons_succ, List.setIfInBounds_toArray, List.set_cons_zero, List.set_cons_succ]
    refine wpAnyH_take (i := 2) (v := .bool false) rfl (by kernel_rfl) (by kernel_rfl) (by kernel_rfl) (fun _ _ _ h => h) (Or.inl ⟨by rfl, fun w hS => by go_simp⟩) hHeld ?_
    simp only [Act.put, List.getElem_toArray, List.getElem_cons_zero, List.getElem_cons_succ, List.setIfInBounds_toArray, List.set_cons_zero, List.set_cons_succ]
    refine wpAnyH_take (i := 3) (v := undef) rfl (by kernel_rfl) (by kernel_rfl) (by kernel_rfl) (fun _ _ _ h => h) (Or.inr ⟨by rfl, rfl⟩) hHeld ?_
    simp only [Act.put, List.getElem_toArray, List.getElem_cons_zero, List.getElem_cons_succ, List.setIfInBounds_toArray, List.set_cons_zero, List.set_cons_succ]
    refine wpAnyH_take (i := 4) (v := undef) rfl (by kernel_rfl) (by kernel_rfl) (by kernel_rfl) (fun _ _ _ h => h) (Or.inr ⟨by rfl, rfl⟩) hHeld ?_
    simp only [Act.put, List.getElem_toArray, List.getElem_cons_zero, List.getElem_cons_succ, List.setIfInBounds_toArray, List.set_cons_zero, List.set_cons_succ]
    refine wpAnyH_take (i := 5) (v := .bool false) rfl (by kernel_rfl) (by kernel_rfl) (by kernel_rfl) (fun _ _ _ h => h) (Or.inl ⟨by rfl, fun w hS => by go_simp⟩) hHeld ?_
    simp only [Act.put, List.getElem_toArray, List.getElem_cons_zero, List.getElem_cons_succ, List.setIfInBounds_toArray, List.set_cons_zero, List.set_cons_succ]
    refine wpAnyH_take (i := 6) (v := .bool false) rfl (by kernel_rfl) (by kernel_rfl) (by kernel_rfl) (fun _ _ _ h => h) (Or.inl ⟨by rfl, fun w hS => by go_simp⟩) hHeld ?_
    simp only [Act.put, List.getElem_toArray, List.getElem_cons_zero, List.getElem_cons_succ, List.setIfInBounds_toArray, List.set_cons_zero, List.set_cons_succ]
    refine wpAnyH_take (i := 7) (v := undef) rfl (by kernel_rfl) (by kernel_rfl) (by kernel_rfl) (fun _ _ _ h => h) (Or.inr ⟨by rfl, rfl⟩) hHeld ?_
    simp only [Act.put, List.getElem_toArray, List.getElem_cons_zero, List.getElem_cons_succ, List.setIfInBounds_toArray, List.set_cons_zero, List.set_cons_succ]
    refine wpAnyH_take (i := 8) (v := undef) rfl (by kernel_rfl) (by kernel_rfl) (by kernel_rfl) (fun _ _ _ h => h) (Or.inr ⟨by rfl, rfl⟩) hHeld ?_
    simp only [Act.put, List.getElem_toArray, List.getElem_cons_zero, List.getElem_cons_succ, List.setIfInBounds_toArray, List.set_cons_zero, List.set_cons_succ]
    refine wpAnyH_take (i := 9) (v := undef) rfl (by kernel_rfl) (by kernel_rfl) (by kernel_rfl) (fun _ _ _ h => h) (Or.inr ⟨by rfl, rfl⟩) hHeld ?_
    simp only [Act.put, List.getElem_toArray, List.getElem_cons_zero, List.getElem_cons_succ, List.setIfInBounds_toArray, List.set_cons_zero, List.set_cons_succ]
    refine wpAnyH_take (i := 10) (v := .bool false) rfl (by kernel_rfl) (by kernel_rfl) (by kernel_rfl) (fun _ _ _ h => h) (Or.inl ⟨by rfl, fun w hS => by go_simp⟩) hHeld ?_
    simp only [Act.put, List.getElem_toArray, List.getElem_cons_zero, List.getElem_cons_succ, List.setIfInBounds_toArray, List.set_cons_zero, List.set_cons_succ]
    refine wpAnyH_take (i := 11) (v := .bool false) rfl (by kernel_rfl) (by kernel_rfl) (by kernel_rfl) (fun _ _ _ h => h) (Or.inl ⟨by rfl, fun w hS => by go_simp⟩) hHeld ?_
    simp only [Act.put, List.getElem_toArray, List.getElem_cons_zero, List.getElem_cons_succ, List.setIfInBounds_toArray, List.set_cons_zero, List.set_cons_succ]
    refine wpAnyH_take (i := 12) (v := undef) rfl (by kernel_rfl) (by kernel_rfl) (by kernel_rfl) (fun _ _ _ h => h) (Or.inr ⟨by rfl, rfl⟩) hHeld ?_
    simp only [Act.put, List.getElem_toArray, List.getElem_cons_zero, List.getElem_cons_succ, List.setIfInBounds_toArray, List.set_cons_zero, List.set_cons_succ]
    refine wpAnyH_take (i := 13) (v := undef) rfl (by kernel_rfl) (by kernel_rfl) (by kernel_rfl) (fun _ _ _ h => h) (Or.inr ⟨by rfl, rfl⟩) hHeld ?_
    simp only [Act.put, List.getElem_toArray, List.getElem_cons_zero, List.getElem_cons_succ, List.setIfInBounds_toArray, List.set_cons_zero, List.set_cons_succ]
    refine wpAnyH_take (i := 14) (v := undef) rfl (by kernel_rfl) (by kernel_rfl) (by kernel_rfl) (fun _ _ _ h => h) (Or.inr ⟨by rfl, rfl⟩) hHeld ?_
    simp only [Act.put, List.getElem_toArray, List.getElem_cons_zero, List.getElem_cons_succ, List.setIfInBounds_toArray, List.set_cons_zero, List.set_cons_succ]
    refine wpAnyH_take (i := 15) (v := undef) rfl (by kernel_rfl) (by kernel_rfl) (by kernel_rfl) (fun _ _ _ h => h) (Or.inr ⟨by rfl, rfl⟩) hHeld ?_
    simp only [Act.put, List.getElem_toArray, List.getElem_cons_zero, List.getElem_cons_succ, List.setIfInBounds_toArray, List.set_cons_zero, List.set_cons_succ]
    refine wpAnyH_take (i := 16) (v := undef) rfl (by kernel_rfl) (by kernel_rfl) (by kernel_rfl) (fun _ _ _ h => h) (Or.inr ⟨by rfl, rfl⟩) hHeld ?_
    simp only [Act.put, List.getElem_toArray, List.getElem_cons_zero, List.getElem_cons_succ, List.setIfInBounds_toArray, List.set_cons_zero, List.set_cons_succ]
    refine wpAnyH_take (i := 17) (v := .bool false) rfl (by kernel_rfl) (by kernel_rfl) (by kernel_rfl) (fun _ _ _ h => h) (Or.inl ⟨by rfl, fun w hS => by go_simp⟩) hHeld ?_
    simp only [Act.put, List.getElem_toArray, List.getElem_cons_zero, List.getElem_cons_succ, List.setIfInBounds_toArray, List.set_cons_zero, List.set_cons_succ]
    refine wpAnyH_take (i := 18) (v := .bool false) rfl (by kernel_rfl) (by kernel_rfl) (by kernel_rfl) (fun _ _ _ h => h) (Or.inl ⟨by rfl, fun w hS => by go_simp⟩) hHeld ?_
    simp only [Act.put, List.getElem_toArray, List.getElem_cons_zero, List.getElem_cons_succ, List.setIfInBounds_toArray, List.set_cons_zero, List.set_cons_succ]
    refine wpAnyH_done (by kernel_rfl) ?_ _
    go_wp2
    go_ret
    exact ⟨rfl, (KW.out.step hHeld).now⟩

end Go.Proofs.YtpihigcnoifcfaaDoor
