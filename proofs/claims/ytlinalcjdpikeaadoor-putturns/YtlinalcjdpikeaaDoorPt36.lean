/- PutTurns: writes of unlike keys lead to the same digest in whatever order; writes of what is there change nothing. No condition. -/
import Derived.Test.YtlinalcjdpikeaaDoorPt32
import Derived.Test.YtlinalcjdpikeaaDoorPt35
import Derived.Deep.CutBlock
import Derived.Test.YtlinalcjdpikeaaDoorRows
import Derived.Test.YtlinalcjdpikeaaDoorPt12
import Derived.ProofKit
import Derived.LaidMore
import Derived.OpenShut
import Derived.Stop.Joined
import Derived.Lib.LaidTab
import Derived.Test.YtlinalcjdpikeaaDoorPt33
import Derived.Test.YtlinalcjdpikeaaDoorCards
import Derived.Test.YtlinalcjdpikeaaDoorTie
import Derived.ChangeOld
import Derived.Below
import Derived.SevenTiedAt
namespace Go.Proofs.YtlinalcjdpikeaaDoor
set_option maxRecDepth 20000
open Go.RowKit

theorem TsAt9.grow {w w' : World} {v : Value} {ts : List Int} (h : TsAt9 w v ts) (hb : Below w.heap.size w w') : TsAt9 w' v ts := by
  obtain ⟨a, cap, e, h1⟩ := h
  refine ⟨a, cap, e, fun hp => ?_⟩
  obtain ⟨g, off, e1, h2⟩ := h1 hp
  exact ⟨g, off, e1, fun i hi => below_cell hb (h2 i hi)⟩
theorem sz2_pair9 (K : List Int) (u : Value) (h : K.length = 32) : (Tryd.prog.info? 45).map (·.size) = some (encP K u).length ∧ (Tryd.prog.info? 45).map (·.size) = some (encP K u).toArray.size := ⟨by have := sz_pair9 K u h; rwa [List.size_toArray] at this, sz_pair9 K u h⟩
theorem flatP_one9 {its : List It} (h : ∀ p ∈ its, p.2.oneCell' = true) : ∀ u ∈ flatP its, u.oneCell' = true := fun u hu => by
  obtain ⟨p, hp, hq⟩ := List.mem_flatMap.1 hu
  unfold encP at hq
  rcases List.mem_append.1 hq with q | q
  · obtain ⟨z, _, rfl⟩ := List.mem_map.1 q
    rfl
  · rw [List.mem_singleton.1 q]
    exact h p hp

/-- What the laws know of a list of items in memory: its k-th one. -/
theorem item_at {w0 w : World} {base n c : Nat} {a : Option Addr} {its : List It} (ho : w.ownsRow base 45 33 (.slice a n c) n (flatP its)) (hn : its.length = n) (hv : ∀ q ∈ its, q.1.2.length ≤ 1024 ∧ Key q.1.1 ∧ ∀ w', Below w0.heap.size w0 w' → Reads w' q.2 q.1.2) (h0 : Below w0.heap.size w0 w) (k : Nat) (hk : k < n) :
    ∃ (pb : Nat) (K bs : List Int) (ua : Option Addr) (ul uc : Nat), a = some ⟨pb, 0, none⟩ ∧ (its.map (·.1))[k]? = some (K, bs) ∧ Key K ∧ bs.length ≤ 1024 ∧ (∀ w', Below w.heap.size w w' → w'.rangeAt pb (k * 33) (encP K (.slice ua ul uc))) ∧ ∀ w', Below w.heap.size w w' → Reads w' (.slice ua ul uc) bs := by
  obtain ⟨pb, c', e, _⟩ := lst_pos (owR_lst ho) (by omega)
  injection e with e1 e2 e3
  subst e1 e3
  have hkl : k < its.length := by omega
  have hm : its[k] ∈ its := List.getElem_mem hkl
  obtain ⟨v1, v2, v3⟩ := hv _ hm
  have hr := (own_range ho hn (fun q hq => (hv q hq).2.1.1) hk).1
  have hg : its.getD k (e00, undef) = its[k] := by simp [List.getD, hkl]
  rw [hg] at hr
  obtain ⟨ua, uc, eu, _⟩ := v3 w0 (Below.refl _ _)
  refine ⟨pb, its[k].1.1, its[k].1.2, ua, its[k].1.2.length, uc, rfl, by rw [List.getElem?_map, List.getElem?_eq_getElem hkl]; rfl, v2, v1, fun w' hb => ?_, fun w' hb => ?_⟩
  · rw [← eu]
    exact rng_grow hr hb
  · rw [← eu]
    exact v3 w' (grow_trans h0 hb)

set_option maxRecDepth 100000 in
set_option maxHeartbeats 16000000 in
theorem putTurns_walk (v tv : Value) (V : Nat → Value) (es : List Ent) (ts : List Int) (w : World) (hL : Laid w) (hv : PrAt w v V es) (ht : TsAt9 w tv ts) : Calls Tryd.prog 4 #[v, tv] w fun e w' => e = .returned (.bool true) ∧ Below w.heap.size w w' := by
  have HAW := hidden (awake9_any w hL)
  have HLG : Hid (∀ w', Below w.heap.size w w' → Calls Tryd.prog 10 #[v] w' fun e w'' => e = .returned (.bool (lgP es)) ∧ Below w'.heap.size w' w'') := fun w' hb => large_any (hv.grow hb)
  have hv0 := hv
  obtain ⟨a, cap, rfl, hcap, hc, hr⟩ := hv
  obtain ⟨ta, tc, rfl, htc⟩ := ht
  cases hlg : lgP es with
  | true =>
    rw [hlg] at HLG
    generalize es.length = n at HLG ⊢
    generalize ts.length = nt
    clear hc hr hcap hlg hv0 hL htc
    go_enter Tryd.func4, Tryd.ntmps4
    go_wp2_with (first
      | (go_at_call 9; refine HAW.out.mono ?_; rintro e w1 ⟨rfl, b1⟩; have HQ1 := hidden b1; clear b1)
      | (go_at_call 10; refine (HLG.out _ HQ1.out).mono ?_; rintro e w2 ⟨rfl, b2⟩; have HQ2 := hidden (grow_trans HQ1.out b2); clear b2))
    go_ret
    exact ⟨rfl, HQ2.out⟩
  | false =>
  rw [hlg] at HLG
  obtain ⟨h16, h1024⟩ := lgP_false hlg
  have HNW : Hid (∀ w', Calls Tryd.prog 13 #[.int .i64 10320] w' fun e w'' => ∃ g gs, e = .returned (.tuple #[.pointer (some ⟨g, 0, none⟩), .int .i64 0]) ∧ Hs w' [] w'' g gs 10320 [] []) := fun w' => hs_new 10320 w' (by omega) (by omega)
  have hLM : ∀ q ∈ inI es V, q.1.2.length ≤ 1024 ∧ Key q.1.1 ∧ ∀ w', Below w.heap.size w w' → Reads w' q.2 q.1.2 := fun q hq => by
    obtain ⟨i, hi, rfl⟩ := List.mem_map.1 hq
    have hi := List.mem_range.1 hi
    have h2 := hr i hi
    exact ⟨h1024 _ (by rw [List.getD_eq_getElem?_getD, List.getElem?_eq_getElem hi]; exact List.getElem_mem _), h2.1, fun w' hb => h2.2.grow hb⟩
  have HPR : Hid (∀ w', Below w.heap.size w w' → Calls Tryd.prog 11 #[.slice a es.length cap] w' (PsPost es V w')) := fun w' hb => pairs_any (hv0.grow hb) h16
  obtain ⟨its0, hits⟩ : ∃ l, l = prI (inI es V) := ⟨_, rfl⟩
  have hI16 : its0.length ≤ 16 := by rw [hits]; exact Nat.le_trans (prI_len _ _ rfl) (by rw [inI_len]; exact h16)
  have HV0 : Hid (∀ q ∈ its0, q.1.2.length ≤ 1024 ∧ Key q.1.1 ∧ ∀ w', Below w.heap.size w w' → Reads w' q.2 q.1.2) := fun q hq => hLM q (prI_mem _ _ rfl q (by rw [← hits]; exact hq))
  have HA0 : Hid ((its0.map (·.1)).Pairwise fun a b => a.1 ≠ b.1) := by rw [hits]; exact prI_apart _ _ rfl
  obtain ⟨n, hn⟩ : ∃ n, n = its0.length := ⟨_, rfl⟩
  have HPR2 : Hid (∀ w', Below w.heap.size w w' → Calls Tryd.prog 11 #[.slice a es.length cap] w' fun e w'' => ∃ pa pc, e = .returned (.slice pa n pc) ∧ w''.ownsRow w'.heap.size 45 33 (.slice pa n pc) n (flatP its0) ∧ Below w'.heap.size w' w'') := fun w' hb => by
    have := HPR.out w' hb
    unfold PsPost at this
    rw [← hits, ← hn] at this
    exact this
  have HN := hidden hn
  have hn16 : n ≤ 16 := by omega
  have HOne : Hid (∀ q ∈ its0, q.2.oneCell' = true) := fun q hq => reads_one ((HV0.out q hq).2.2 w (Below.refl _ _))
  obtain ⟨nt, hnt⟩ : ∃ nt, nt = ts.length := ⟨_, rfl⟩
  have HTS : Hid (∀ k, k < nt → ∃ gt ot, ta = some ⟨gt, ot, none⟩ ∧ w.cell? ⟨gt, ot + k, none⟩ = some (.int .i64 (ts.getD k 0))) := fun k hk => by
    obtain ⟨gt, ot, e1, h1⟩ := htc (by omega)
    exact ⟨gt, ot, e1, h1 k (by omega)⟩
  rw [← hnt]
  have HLD0 : Hid (∀ w', Below w.heap.size w w' → Laid w') := fun w' hb => hL.grow hb
  obtain ⟨fpa, hupa⟩ := u_pair
  have HUPa := hidden hupa
  generalize es.length = ne at HLG HPR2 ⊢
  clear hc hr hcap hlg hv0 hL htc h16 h1024 hLM HPR hits hn hnt hI16 hupa
  go_enter Tryd.func4, Tryd.ntmps4
  go_upto_block 0 with (first
    | (go_at_call 9; refine HAW.out.mono ?_; rintro e wa ⟨rfl, b1⟩; have HQ1 := hidden b1; clear b1)
    | (go_at_call 10; refine (HLG.out _ HQ1.out).mono ?_; rintro e w1 ⟨rfl, b2⟩; have HQ2 := hidden (grow_trans HQ1.out b2); clear b2)
    | (go_at_call 11; refine (HPR2.out _ HQ2.out).mono ?_; rintro e w2 ⟨pa, pc1, rfl, o2, b2⟩; have HO2 := hidden o2; have HQ3 := hidden (grow_trans HQ2.out b2); clear o2 b2)
    | ((with_reducible refine at_bsd 27 ?_); refine wpList_bs09 _ rfl rfl ?_; intro w3 b0 hg0 o3 b3; have HO3 := hidden o3; have HO23 := hidden (owR_grow HO2.out b3); have HB3 := hidden b3; clear hg0 o3 b3)
    | (at_builtin; refine wpList_appPs9 _ rfl _ _ rfl w2.heap.size w1.heap.size (.slice (some ⟨b0, 0, none⟩) 0 0) (.slice pa n pc1) 0 n _ _ rfl rfl HO3.out HO23.out (flatP_one9 HOne.out) (by omega) HB3.out.size ?_; intro v4 x3 o4 g4; obtain ⟨la, lc, hv4⟩ := lst_slice (owR_lst o4); subst hv4; have HO4 := hidden o4; have HM4 := hidden (owR_below HB3.out HO3.out (Nat.le_refl _) g4); clear o4 g4))
  have HO5 : Hid (x3.ownsRow w2.heap.size 45 33 (.slice la n lc) n (flatP its0)) := by have := HO4.out; rw [Nat.zero_add, List.nil_append] at this; exact this
  clear HO3 HO23 HB3 HO4 HAW HLG HPR2 HQ1
  go_cut [8, 9, 10] from 21 (fun _ _ _ wx => ∃ its : List It, Hid (its.length = n) ∧ Hid (its.Perm its0) ∧ Hid (wx.ownsRow w2.heap.size 45 33 (.slice la n lc) n (flatP its)) ∧ Hid (Below w2.heap.size w2 wx))
  case first =>
    go_wp2_with fail
    go_loopw [8] (fun i wr => ∃ (k : Nat) (its : List It), k ≤ 40 ∧ k ≤ nt ∧ i = .int .i64 (k : Int) ∧ Hid (its.length = n) ∧ Hid (its.Perm its0) ∧ Hid (wr.ownsRow w2.heap.size 45 33 (.slice la n lc) n (flatP its)) ∧ Hid (Below w2.heap.size w2 wr)) (fun i _ => nt - (intOf i).toNat)
    case atStart => exact ⟨0, its0, by omega, by omega, rfl, HN.out.symm, List.Perm.refl _, HO5.out, HM4.out⟩
    case round =>
      obtain ⟨k, its, hk1, hk2, rfl, hil, hip, hio, hbw⟩ := hrel
      by_cases h1 : k < nt
      · have z1 : (k : Int) < (nt : Int) := by omega
        by_cases h2 : k < 40
        · have z2 : (k : Int) < 40 := by omega
          by_cases h3 : 0 < n
          · as_aux_lemma =>
              have z3 : (0 : Int) < (n : Int) := by omega
              obtain ⟨gt, ot, hta, hcc⟩ := HTS.out k h1
              subst hta
              obtain ⟨τ, hτ⟩ : ∃ τ, τ = ts.getD k 0 := ⟨_, rfl⟩
              rw [← hτ] at hcc
              obtain ⟨x, hx⟩ : ∃ x, x = k % n := ⟨_, rfl⟩
              have hxn : x < n := by rw [hx]; exact Nat.mod_lt _ h3
              have hrem : (k : Int).tmod (n : Int) = (x : Int) := by rw [hx]; exact (Int.ofNat_tmod k n).symm
              obtain ⟨gl, c', es1, _⟩ := lst_pos (owR_lst hio.out) h3
              injection es1 with e1 e2 e3
              subst e1
              subst e3
              clear e2
              have HPk : Hid (∀ w', Calls Tryd.prog 12 #[.int .i64 τ, .int .i64 (n : Int)] w' fun e w'' => (∃ p : Nat, p < n ∧ e = .returned (.int .i64 (p : Int))) ∧ w'' = w') := fun w' => (pick_any τ (n : Int) w' (by omega) (by omega)).mono fun e w'' ⟨e1, e2⟩ => ⟨⟨(τ % (n : Int)).toNat, by have h4 := Int.emod_nonneg τ (show (n : Int) ≠ 0 by omega); have h5 := Int.emod_lt_of_pos τ (show (0 : Int) < (n : Int) by omega); omega, by rw [e1, Int.toNat_of_nonneg (Int.emod_nonneg τ (show (n : Int) ≠ 0 by omega))]⟩, e2⟩
              have hnz : ¬ (n : Int) = 0 := by omega
              have hnz2 : ¬ n = 0 := by omega
              have HX := hidden hxn
              have HCC := hidden hcc
              have z4 : (0 : Int) ≤ (k : Int) := by omega
              have hwk : wrap64 ((k : Int) + 1) = ((k + 1 : Nat) : Int) := by rw [Go.IntWalk.wrap64_in _ (by omega)]; rfl
              have HQW2 := hidden (grow_trans HQ3.out hbw.out)
              clear hcc hτ hx hxn h1 h2
              go_wp2_with fail
              have d0 : Below wr.heap.size wr wr.drew := (Below.refl _ _).drew
              have HS : Hid (∀ w', Below wr.heap.size wr w' → w'.cell? ⟨gt, ot + k, none⟩ = some (.int .i64 τ)) := fun w' q => below_cell (grow_trans HQW2.out q) HCC.out
              refine wp_region_last (S := fun w' => w'.cell? ⟨gt, ot + k, none⟩ = some (.int .i64 τ)) 12 (by kernel_rfl) (HS.out _ d0) (fun hHeld => ?_)
              refine wpAnyL_take (i := 0) (v := .int .i64 (k : Int)) rfl (by kernel_rfl) (by kernel_rfl) (by kernel_rfl) (by kernel_rfl) (by kernel_rfl) (fun _ _ _ h => h) (Or.inl ⟨by rfl, fun w hS => by go_simp⟩) hHeld ?_
              simp only [Act.put, List.getElem_toArray, List.getElem_cons_zero, List.setIfInBounds_toArray, List.set_cons_zero, List.set_cons_succ]
              refine wpAnyL_take (i := 1) (v := .slice (some ⟨gl, 0, none⟩) n lc) rfl (by kernel_rfl) (by kernel_rfl) (by kernel_rfl) (by kernel_rfl) (by kernel_rfl) (fun _ _ _ h => h) (Or.inl ⟨by rfl, fun w hS => by go_simp⟩) hHeld ?_
              simp only [Act.put, List.getElem_toArray, List.getElem_cons_zero, List.getElem_cons_succ, List.setIfInBounds_toArray, List.set_cons_zero, List.set_cons_succ]
              refine wpAnyL_take (i := 2) (v := .int .i64 (n : Int)) rfl (by kernel_rfl) (by kernel_rfl) (by kernel_rfl) (by kernel_rfl) (by kernel_rfl) (fun _ _ _ h => h) (Or.inl ⟨by rfl, fun w hS => by go_simp⟩) hHeld ?_
              simp only [Act.put, List.getElem_toArray, List.getElem_cons_zero, List.getElem_cons_succ, List.setIfInBounds_toArray, List.set_cons_zero, List.set_cons_succ]
              refine wpAnyL_take (i := 3) (v := .int .i64 (x : Int)) rfl (by kernel_rfl) (by kernel_rfl) (by kernel_rfl) (by kernel_rfl) (by kernel_rfl) (fun _ _ _ h => h) (Or.inl ⟨by rfl, fun w hS => by go_simp⟩) hHeld ?_
              simp only [Act.put, List.getElem_toArray, List.getElem_cons_zero, List.getElem_cons_succ, List.setIfInBounds_toArray, List.set_cons_zero, List.set_cons_succ]
              refine wpAnyL_take (i := 4) (v := .slice (some ⟨gt, ot, none⟩) nt tc) rfl (by kernel_rfl) (by kernel_rfl) (by kernel_rfl) (by kernel_rfl) (by kernel_rfl) (fun _ _ _ h => h) (Or.inl ⟨by rfl, fun w hS => by go_simp⟩) hHeld ?_
              simp only [Act.put, List.getElem_toArray, List.getElem_cons_zero, List.getElem_cons_succ, List.setIfInBounds_toArray, List.set_cons_zero, List.set_cons_succ]
              refine wpAnyL_take (i := 5) (v := .int .i64 (k : Int)) rfl (by kernel_rfl) (by kernel_rfl) (by kernel_rfl) (by kernel_rfl) (by kernel_rfl) (fun _ _ _ h => h) (Or.inl ⟨by rfl, fun w hS => by go_simp⟩) hHeld ?_
              simp only [Act.put, List.getElem_toArray, List.getElem_cons_zero, List.getElem_cons_succ, List.setIfInBounds_toArray, List.set_cons_zero, List.set_cons_succ]
              refine wpAnyL_take (i := 6) (v := .pointer (some ⟨gt, ot + k, none⟩)) rfl (by kernel_rfl) (by kernel_rfl) (by kernel_rfl) (by kernel_rfl) (by kernel_rfl) (fun _ _ _ h => h) (Or.inl ⟨by rfl, fun w hS => by go_simp⟩) hHeld ?_
              simp only [Act.put, List.getElem_toArray, List.getElem_cons_zero, List.getElem_cons_succ, List.setIfInBounds_toArray, List.set_cons_zero, List.set_cons_succ]
              refine wpAnyL_take (i := 7) (v := .int .i64 τ) rfl (by kernel_rfl) (by kernel_rfl) (by kernel_rfl) (by kernel_rfl) (by kernel_rfl) (fun _ _ _ h => h) (Or.inl ⟨by rfl, fun w hS => by (have s1 := hS; go_simp)⟩) hHeld ?_
              simp only [Act.put, List.getElem_toArray, List.getElem_cons_zero, List.getElem_cons_succ, List.setIfInBounds_toArray, List.set_cons_zero, List.set_cons_succ]
              refine wpAnyL_take (i := 8) (v := .slice (some ⟨gl, 0, none⟩) n lc) rfl (by kernel_rfl) (by kernel_rfl) (by kernel_rfl) (by kernel_rfl) (by kernel_rfl) (fun _ _ _ h => h) (Or.inl ⟨by rfl, fun w hS => by go_simp⟩) hHeld ?_
              simp only [Act.put, List.getElem_toArray, List.getElem_cons_zero, List.getElem_cons_succ, List.setIfInBounds_toArray, List.set_cons_zero, List.set_cons_succ]
              refine wpAnyL_take (i := 9) (v := .int .i64 (n : Int)) rfl (by kernel_rfl) (by kernel_rfl) (by kernel_rfl) (by kernel_rfl) (by kernel_rfl) (fun _ _ _ h => h) (Or.inl ⟨by rfl, fun w hS => by go_simp⟩) hHeld ?_
              simp only [Act.put, List.getElem_toArray, List.getElem_cons_zero, List.getElem_cons_succ, List.setIfInBounds_toArray, List.set_cons_zero, List.set_cons_succ]
              refine wpAnyL_one (i := 10) rfl (by kernel_rfl) (fun KQ hK => ?_)
              go_simp
              refine (HPk.out _).mono ?_
              rintro e x1 ⟨⟨y, hyn, rfl⟩, rfl⟩
              have HY := hidden hyn
              clear hyn
              refine hK.out _ _ (HS.out _ d0) (fun hHeld => ?_)
              clear hK KQ
              refine wpAnyL_take (i := 11) (v := .int .i64 (x : Int)) rfl (by kernel_rfl) (by kernel_rfl) (by kernel_rfl) (by kernel_rfl) (by kernel_rfl) (fun _ _ _ h => h) (Or.inl ⟨by rfl, fun w hS => by go_simp⟩) hHeld ?_
              simp only [Act.put, List.getElem_toArray, List.getElem_cons_zero, List.getElem_cons_succ, List.setIfInBounds_toArray, List.set_cons_zero, List.set_cons_succ]
              refine wpAnyL_last rfl (by kernel_rfl) (by kernel_rfl) (fun KQ hK => ?_)
              go_simp
              
              refine hK.out _ _ ?_
              clear hK KQ
              as_aux_lemma =>
                have hy2 : (y : Int) < (n : Int) := by have := HY.out; omega
                have hy0 : (0 : Int) ≤ (y : Int) := by omega
                have hx2 : (x : Int) < (n : Int) := by have := HX.out; omega
                have hx0 : (0 : Int) ≤ (x : Int) := by omega
                have hyl : y < its.length := by rw [hil.out]; exact HY.out
                have hxl : x < its.length := by rw [hil.out]; exact HX.out
                have hk32 : ∀ q ∈ its, q.1.1.length = 32 := fun q hq => (HV0.out q (hip.out.mem_iff.1 hq)).2.1.1
                obtain ⟨Px, hPx⟩ : ∃ Px, Px = its.getD x (e00, undef) := ⟨_, rfl⟩
                obtain ⟨Py, hPy⟩ : ∃ Py, Py = its.getD y (e00, undef) := ⟨_, rfl⟩
                have ePx : Px = its[x] := by rw [hPx]; simp [List.getD, hxl]
                have ePy : Py = its[y] := by rw [hPy]; simp [List.getD, hyl]
                have hmx : Px ∈ its := by rw [ePx]; exact List.getElem_mem hxl
                have hmy : Py ∈ its := by rw [ePy]; exact List.getElem_mem hyl
                have vx1 : Px.2.oneCell' = true := HOne.out Px (hip.out.mem_iff.1 hmx)
                have vy1 : Py.2.oneCell' = true := HOne.out Py (hip.out.mem_iff.1 hmy)
                have kx := hk32 Px hmx
                have ky := hk32 Py hmy
                have hrx := own_range hio.out hil.out hk32 HX.out
                have hry := own_range hio.out hil.out hk32 HY.out
                rw [← hPx] at hrx
                rw [← hPy] at hry
                have d1 : Below wr.heap.size wr wr.drew.drew := (Below.refl _ _).drew.drew
                have o1 := ownsP_below hio.out d1
                have o2 := own_set o1 hil.out hk32 HX.out Py ky
                have hk32b : ∀ q ∈ its.set x Py, q.1.1.length = 32 := fun q hq => by
                  rcases List.mem_or_eq_of_mem_set hq with hq | rfl
                  · exact hk32 q hq
                  · exact ky
                have hil2 : (its.set x Py).length = n := by rw [List.length_set]; exact hil.out
                have o3 := own_set o2 hil2 hk32b HY.out Px kx
                have ht2 := (own_range o2 hil2 hk32b HY.out).2
                have hperm : ((its.set x Py).set y Px).Perm its := by rw [ePx, ePy]; exact swap_perm its x y hxl hyl
                have HPM : Hid (((its.set x Py).set y Px).Perm its0) := hperm.trans hip.out
                have hg2 := grown_setCells gl (encP Py.1.1 Py.2) (x * 33) wr.drew.drew
                have hg3 := grown_trans hg2 (grown_setCells gl (encP Px.1.1 Px.2) (y * 33) (wr.drew.drew.setCells gl (x * 33) (encP Py.1.1 Py.2)))
                have hbe : Below w2.heap.size w2 ((wr.drew.drew.setCells gl (x * 33) (encP Py.1.1 Py.2)).setCells gl (y * 33) (encP Px.1.1 Px.2)) := below_row (grow_trans hbw.out d1) hg3 (hio.out.lt gl rfl).1
                have HEND := hidden (And.intro o3 hbe)
                have HTX : Hid (wr.drew.drew.there gl (x * 33) (encP Py.1.1 Py.2).toArray.size) := by show World.there _ _ _ _; rw [List.size_toArray, encP_length _ _ ky]; exact hrx.2
                have HTY : Hid ((wr.drew.drew.setCells gl (x * 33) (encP Py.1.1 Py.2)).there gl (y * 33) (encP Px.1.1 Px.2).toArray.size) := by show World.there _ _ _ _; rw [List.size_toArray, encP_length _ _ kx]; exact ht2
                have HSX := hidden (sz2_pair9 Px.1.1 Px.2 kx)
                have HSY := hidden (sz2_pair9 Py.1.1 Py.2 ky)
                have HOX := hidden (encP_one9 Px.1.1 Px.2 vx1)
                have HOY := hidden (encP_one9 Py.1.1 Py.2 vy1)
                have HRG : Hid (wr.drew.drew.rangeAt gl (y * 33) (encP Py.1.1 Py.2) ∧ wr.drew.drew.rangeAt gl (x * 33) (encP Px.1.1 Px.2)) := ⟨rng_grow hry.1 d1, rng_grow hrx.1 d1⟩
                have HIL2 : Hid (((its.set x Py).set y Px).length = n) := by show _ = _; rw [List.length_set]; exact hil2
                clear hPx hPy ePx ePy hmx hmy vx1 vy1 kx ky hrx hry d1 o1 o2 o3 ht2 hperm hg2 hg3 hbe hk32 hk32b hil2 hyl hxl HS d0 hil hip hio hbw hHeld HQW2
                obtain ⟨Kx, hKx⟩ : ∃ K, K = Px.1.1 := ⟨_, rfl⟩
                obtain ⟨Ky, hKy⟩ : ∃ K, K = Py.1.1 := ⟨_, rfl⟩
                obtain ⟨Vx, hVx⟩ : ∃ K, K = Px.2 := ⟨_, rfl⟩
                obtain ⟨Vy, hVy⟩ : ∃ K, K = Py.2 := ⟨_, rfl⟩
                obtain ⟨itz, hitz⟩ : ∃ i, i = (its.set x Py).set y Px := ⟨_, rfl⟩
                rw [← hKx, ← hKy, ← hVx, ← hVy, ← hitz] at HEND
                rw [← hitz] at HPM HIL2
                rw [← hKy, ← hVy] at HTX HSY HOY HRG
                rw [← hKx, ← hVx] at HSX HOX HRG
                rw [← hKy, ← hVy, ← hKx, ← hVx] at HTY
                clear hKx hKy hVx hVy hitz
                go_wp2_with fail
                refine wp_region_wrote (S := fun w' => w'.rangeAt gl (y * 33) (encP Ky Vy) ∧ w'.rangeAt gl (x * 33) (encP Kx Vx)) [13, 15] (by kernel_rfl) (HRG.out) (fun hHeld => ?_)
                refine wpAnyW_take0 (i := 0) (v := .slice (some ⟨gl, 0, none⟩) n lc) rfl (by kernel_rfl) (by kernel_rfl) (by kernel_rfl) (by kernel_rfl) (fun _ _ _ h => h) (Or.inl ⟨by rfl, fun w hS => by go_simp⟩) (.inr hHeld) ?_
                simp only [Act.put, List.getElem_toArray, List.getElem_cons_zero, List.setIfInBounds_toArray, List.set_cons_zero, List.set_cons_succ]
                refine wpAnyW_take0 (i := 1) (v := .int .i64 (x : Int)) rfl (by kernel_rfl) (by kernel_rfl) (by kernel_rfl) (by kernel_rfl) (fun _ _ _ h => h) (Or.inl ⟨by rfl, fun w hS => by go_simp⟩) (.inr hHeld) ?_
                simp only [Act.put, List.getElem_toArray, List.getElem_cons_zero, List.getElem_cons_succ, List.setIfInBounds_toArray, List.set_cons_zero, List.set_cons_succ]
                refine wpAnyW_take0 (i := 2) (v := .slice (some ⟨gl, 0, none⟩) n lc) rfl (by kernel_rfl) (by kernel_rfl) (by kernel_rfl) (by kernel_rfl) (fun _ _ _ h => h) (Or.inl ⟨by rfl, fun w hS => by go_simp⟩) (.inr hHeld) ?_
                simp only [Act.put, List.getElem_toArray, List.getElem_cons_zero, List.getElem_cons_succ, List.setIfInBounds_toArray, List.set_cons_zero, List.set_cons_succ]
                refine wpAnyW_take0 (i := 3) (v := .int .i64 (y : Int)) rfl (by kernel_rfl) (by kernel_rfl) (by kernel_rfl) (by kernel_rfl) (fun _ _ _ h => h) (Or.inl ⟨by rfl, fun w hS => by go_simp⟩) (.inr hHeld) ?_
                simp only [Act.put, List.getElem_toArray, List.getElem_cons_zero, List.getElem_cons_succ, List.setIfInBounds_toArray, List.set_cons_zero, List.set_cons_succ]
                refine wpAnyW_take0 (i := 4) (v := .slice (some ⟨gl, 0, none⟩) n lc) rfl (by kernel_rfl) (by kernel_rfl) (by kernel_rfl) (by kernel_rfl) (fun _ _ _ h => h) (Or.inl ⟨by rfl, fun w hS => by go_simp⟩) (.inr hHeld) ?_
                simp only [Act.put, List.getElem_toArray, List.getElem_cons_zero, List.getElem_cons_succ, List.setIfInBounds_toArray, List.set_cons_zero, List.set_cons_succ]
                refine wpAnyW_take0 (i := 5) (v := .int .i64 (y : Int)) rfl (by kernel_rfl) (by kernel_rfl) (by kernel_rfl) (by kernel_rfl) (fun _ _ _ h => h) (Or.inl ⟨by rfl, fun w hS => by go_simp⟩) (.inr hHeld) ?_
                simp only [Act.put, List.getElem_toArray, List.getElem_cons_zero, List.getElem_cons_succ, List.setIfInBounds_toArray, List.set_cons_zero, List.set_cons_succ]
                refine wpAnyW_take0 (i := 6) (v := .pointer (some ⟨gl, y * 33, none⟩)) rfl (by kernel_rfl) (by kernel_rfl) (by kernel_rfl) (by kernel_rfl) (fun _ _ _ h => h) (Or.inl ⟨by rfl, fun w hS => by go_simp⟩) (.inr hHeld) ?_
                simp only [Act.put, List.getElem_toArray, List.getElem_cons_zero, List.getElem_cons_succ, List.setIfInBounds_toArray, List.set_cons_zero, List.set_cons_succ]
                refine wpAnyW_take (i := 7) (v := .agg (encP Ky Vy).toArray) rfl (by kernel_rfl) (by kernel_rfl) (by kernel_rfl) (by kernel_rfl) (by kernel_rfl) (by kernel_rfl) (fun _ _ _ h => h) (yieldsIf_load_mid rfl 45 (.tmp 62) rfl gl (y * 33) rfl (encP Ky Vy) _ (fun w hS => hS.1) HUPa.out rfl HSY.out.1) hHeld ?_
                simp only [Act.put, List.getElem_toArray, List.getElem_cons_zero, List.getElem_cons_succ, List.setIfInBounds_toArray, List.set_cons_zero, List.set_cons_succ]
                refine wpAnyW_take0 (i := 8) (v := .slice (some ⟨gl, 0, none⟩) n lc) rfl (by kernel_rfl) (by kernel_rfl) (by kernel_rfl) (by kernel_rfl) (fun _ _ _ h => h) (Or.inl ⟨by rfl, fun w hS => by go_simp⟩) (.inr hHeld) ?_
                simp only [Act.put, List.getElem_toArray, List.getElem_cons_zero, List.getElem_cons_succ, List.setIfInBounds_toArray, List.set_cons_zero, List.set_cons_succ]
                refine wpAnyW_take0 (i := 9) (v := .int .i64 (x : Int)) rfl (by kernel_rfl) (by kernel_rfl) (by kernel_rfl) (by kernel_rfl) (fun _ _ _ h => h) (Or.inl ⟨by rfl, fun w hS => by go_simp⟩) (.inr hHeld) ?_
                simp only [Act.put, List.getElem_toArray, List.getElem_cons_zero, List.getElem_cons_succ, List.setIfInBounds_toArray, List.set_cons_zero, List.set_cons_succ]
                refine wpAnyW_take0 (i := 10) (v := .pointer (some ⟨gl, x * 33, none⟩)) rfl (by kernel_rfl) (by kernel_rfl) (by kernel_rfl) (by kernel_rfl) (fun _ _ _ h => h) (Or.inl ⟨by rfl, fun w hS => by go_simp⟩) (.inr hHeld) ?_
                simp only [Act.put, List.getElem_toArray, List.getElem_cons_zero, List.getElem_cons_succ, List.setIfInBounds_toArray, List.set_cons_zero, List.set_cons_succ]
                refine wpAnyW_take (i := 11) (v := .agg (encP Kx Vx).toArray) rfl (by kernel_rfl) (by kernel_rfl) (by kernel_rfl) (by kernel_rfl) (by kernel_rfl) (by kernel_rfl) (fun _ _ _ h => h) (yieldsIf_load_mid rfl 45 (.tmp 66) rfl gl (x * 33) rfl (encP Kx Vx) _ (fun w hS => hS.2) HUPa.out rfl HSX.out.1) hHeld ?_
                simp only [Act.put, List.getElem_toArray, List.getElem_cons_zero, List.getElem_cons_succ, List.setIfInBounds_toArray, List.set_cons_zero, List.set_cons_succ]
                refine wpAnyW_take0 (i := 12) (v := .pointer (some ⟨gl, x * 33, none⟩)) rfl (by kernel_rfl) (by kernel_rfl) (by kernel_rfl) (by kernel_rfl) (fun _ _ _ h => h) (Or.inl ⟨by rfl, fun w hS => by go_simp⟩) (.inr hHeld) ?_
                simp only [Act.put, List.getElem_toArray, List.getElem_cons_zero, List.getElem_cons_succ, List.setIfInBounds_toArray, List.set_cons_zero, List.set_cons_succ]
                refine wpAnyW_one (i := 13) rfl (by kernel_rfl) (by kernel_rfl) (fun KQ hK => ?_)
                refine step_stm _ rfl _ _ _ rfl gl (x * 33) (encP Ky Vy).toArray rfl rfl HTX.out HSY.out.2 HOY.out ?_
                refine hK.out _ _ ?_
                clear hK KQ
                refine wpAnyW_take0 (i := 14) (v := .pointer (some ⟨gl, y * 33, none⟩)) rfl (by kernel_rfl) (by kernel_rfl) (by kernel_rfl) (by kernel_rfl) (fun _ _ _ h => h) (Or.inl ⟨by rfl, fun w hS => by go_simp⟩) (.inl (by kernel_rfl)) ?_
                simp only [Act.put, List.getElem_toArray, List.getElem_cons_zero, List.getElem_cons_succ, List.setIfInBounds_toArray, List.set_cons_zero, List.set_cons_succ]
                refine wpAnyW_one (i := 15) rfl (by kernel_rfl) (by kernel_rfl) (fun KQ hK => ?_)
                refine step_stm _ rfl _ _ _ rfl gl (y * 33) (encP Kx Vx).toArray rfl rfl HTY.out HSX.out.2 HOX.out ?_
                refine hK.out _ _ ?_
                clear hK KQ
                refine wpAnyW_done (by kernel_rfl) ?_
                generalize (wr.drew.drew.setCells gl (x * 33) (encP Ky Vy)).setCells gl (y * 33) (encP Kx Vx) = x9' at *
                clear HTX HTY HSX HSY HOX HOY HRG hHeld
                go_wp2_with fail
                exact ⟨⟨k + 1, itz, by omega, by omega, by go_num, HIL2, HPM, HEND.out.1, HEND.out.2⟩, by simp [intOf]; omega⟩
          · have z3 : ¬ (0 : Int) < (n : Int) := by omega
            clear h3
            go_wp2
            go_meet
            case rel => exact ⟨its, hil, hip, hio, hbw⟩
        · have z2 : ¬ (k : Int) < 40 := by omega
          clear h2
          go_wp2
          go_meet
          case rel => exact ⟨its, hil, hip, hio, hbw⟩
      · have z1 : ¬ (k : Int) < (nt : Int) := by omega
        clear h1
        go_wp2
        go_meet
        case rel => exact ⟨its, hil, hip, hio, hbw⟩
  case rest =>
    obtain ⟨itz, hil, hip, hio, hbw⟩ := hcut
    clear HO5 HM4 HTS HUPa HOne
    obtain ⟨w6, rfl⟩ : ∃ x, x = wc := ⟨_, rfl⟩
    have HW6 := hidden (grow_trans HQ3.out hbw.out)
    obtain ⟨L, hLe⟩ : ∃ L, L = its0.map (·.1) := ⟨_, rfl⟩
    obtain ⟨M, hMe⟩ : ∃ M, M = itz.map (·.1) := ⟨_, rfl⟩
    have HPM : Hid (M.Perm L) := by rw [hMe, hLe]; exact hip.out.map _
    have HAL : Hid (L.Pairwise fun a b => a.1 ≠ b.1) := by rw [hLe]; exact HA0.out
    have HAM : Hid (M.Pairwise fun a b => a.1 ≠ b.1) := (HPM.out.pairwise_iff (fun {a b} h => fun e => h e.symm)).2 HAL.out
    have HLn : Hid (L.length = n) := by rw [hLe, List.length_map]; exact HN.out.symm
    have HMT : Hid (M.take n = M) := List.take_of_length_le (by rw [hMe, List.length_map]; exact Nat.le_of_eq hil.out)
    have HL1 : Hid (∀ k, k < n → ∃ (pb : Nat) (K bs : List Int) (ua : Option Addr) (ul uc : Nat), pa = some ⟨pb, 0, none⟩ ∧ L[k]? = some (K, bs) ∧ Key K ∧ bs.length ≤ 1024 ∧ (∀ w', Below w6.heap.size w6 w' → w'.rangeAt pb (k * 33) (encP K (.slice ua ul uc))) ∧ ∀ w', Below w6.heap.size w6 w' → Reads w' (.slice ua ul uc) bs) := fun k hk => by rw [hLe]; exact item_at (owR_grow HO2.out hbw.out) HN.out.symm HV0.out HW6.out k hk
    have HL2 : Hid (∀ k, k < n → ∃ (pb : Nat) (K bs : List Int) (ua : Option Addr) (ul uc : Nat), la = some ⟨pb, 0, none⟩ ∧ M[k]? = some (K, bs) ∧ Key K ∧ bs.length ≤ 1024 ∧ (∀ w', Below w6.heap.size w6 w' → w'.rangeAt pb (k * 33) (encP K (.slice ua ul uc))) ∧ ∀ w', Below w6.heap.size w6 w' → Reads w' (.slice ua ul uc) bs) := fun k hk => by rw [hMe]; exact item_at hio.out hil.out (fun q hq => HV0.out q (hip.out.mem_iff.1 hq)) HW6.out k hk
    have HLD : Hid (∀ w', Below w6.heap.size w6 w' → Laid w') := fun w' hb => HLD0.out _ (grow_trans HW6.out hb)
    have HT12 : Hid (∀ g gs wr one, Tn1 w6 wr g gs L n one → Tn2 w6 wr g gs L M n 0 one 0) := fun g gs wr one ⟨cs, fr, T, h1, h2, h3, h4, h5⟩ => ⟨cs, fr, T, .emp, h1, h2, by rw [List.take_of_length_le (by rw [HLn.out]; exact Nat.le_refl _)] at h3; exact h3, Rt.zero cs, by rw [List.take_zero]; exact List.Perm.refl _, h4, h5, by
      rcases h2.own with e | e
      · exact .inl e
      · by_cases h0 : one = 0
        · exact .inl h0
        · exact .inr (by rw [if_neg (by omega)]; omega)⟩
    clear hLe hMe hil hip hio hbw HO2 HQ3 HQ2 HV0 HA0 HLD0 HN HLn
    go_wp2_with (first
      | (go_at_call 13; refine (HNW.out _).mono ?_; rintro e w7 ⟨g, gs, rfl, h7⟩; have HT0 : Hid (Tn1 w6 w7 g gs L 0 0) := ⟨[], [], .emp, h7, Rt.zero [], by rw [List.take_zero]; exact List.Perm.refl _, fun i => by rw [own_nil]; omega, by show 0 ≤ _; omega⟩; clear h7))
    replace HT12 := hidden (HT12.out g gs)
    clear HNW
    go_loopw [12, 13, 15] (fun ev rv iv wr => ∃ (k one : Nat), k ≤ n ∧ ev = .int .i64 0 ∧ rv = .int .i64 (one : Int) ∧ iv = .int .i64 (k : Int) ∧ Hid (Tn1 w6 wr g gs L k one)) (fun _ _ iv _ => n - (intOf iv).toNat)
    case atStart => exact ⟨0, 0, by omega, rfl, rfl, rfl, HT0.out⟩
    case round =>
      clear HT0
      obtain ⟨k, one, hk, rfl, rfl, rfl, HT⟩ := hrel
      by_cases hlt : k < n
      · as_aux_lemma =>
          obtain ⟨pb, K, bs, ua, ul, uc, hsa, hit, hKey, hlen, hrg, hrd⟩ := HL1.out k (by omega)
          subst hsa
          have HKL := hidden hKey.1
          have HPL := hidden (pth_ln K hKey.1)
          have HRG := hidden hrg
          have k0 : (0 : Int) ≤ (k : Int) := by omega
          have k1 : (k : Int) < (n : Int) := by omega
          have hk16 : k < 16 := by omega
          have hwk : wrap64 ((k : Int) + 1) = ((k + 1 : Nat) : Int) := by rw [Go.IntWalk.wrap64_in _ (by omega)]; rfl
          have HPT : Hid (∀ w', Tn1 w6 w' g gs L k one → Calls Tryd.prog 5 #[.pointer (some ⟨g, 0, none⟩), .int .i64 (one : Int), .agg (B K), .slice ua ul uc] w' fun e w'' => ∃ (ty : Int) (tn : Nat), e = .returned (.tuple #[.int .i64 ty, .int .i64 0]) ∧ ty = (tn : Int) ∧ Tn1 w6 w'' g gs L (k + 1) tn) := fun w' h => tn_put1 h HAL.out hk16 hit hKey hrd HLD.out hlen
          generalize (one : Int) = ry at HPT ⊢
          clear hit hKey hlen hrg hrd hk HL1 HL2
          go_wp2_with fail
          refine wp_region_held_drew (S := fun w' => w'.rangeAt pb (k * 33) (encP K (.slice ua ul uc))) (by kernel_rfl) (HRG.out _ (grow_trans HT.out.low (below_drewN (Below.refl _ _) 1))) (fun hHeld => ?_)
          refine wpAnyH_take (i := 0) (v := .pointer (some ⟨g, 0, none⟩)) rfl (by kernel_rfl) (by kernel_rfl) (by kernel_rfl) (fun _ _ _ h => h) (Or.inl ⟨by rfl, fun w hS => by go_simp⟩) hHeld ?_
          simp only [Act.put, List.getElem_toArray, List.getElem_cons_zero, List.setIfInBounds_toArray, List.set_cons_zero, List.set_cons_succ]
          refine wpAnyH_take (i := 1) (v := .int .i64 ry) rfl (by kernel_rfl) (by kernel_rfl) (by kernel_rfl) (fun _ _ _ h => h) (Or.inl ⟨by rfl, fun w hS => by go_simp⟩) hHeld ?_
          simp only [Act.put, List.getElem_toArray, List.getElem_cons_zero, List.getElem_cons_succ, List.setIfInBounds_toArray, List.set_cons_zero, List.set_cons_succ]
          refine wpAnyH_take (i := 2) (v := .slice (some ⟨pb, 0, none⟩) n pc1) rfl (by kernel_rfl) (by kernel_rfl) (by kernel_rfl) (fun _ _ _ h => h) (Or.inl ⟨by rfl, fun w hS => by go_simp⟩) hHeld ?_
          simp only [Act.put, List.getElem_toArray, List.getElem_cons_zero, List.getElem_cons_succ, List.setIfInBounds_toArray, List.set_cons_zero, List.set_cons_succ]
          refine wpAnyH_take (i := 3) (v := .int .i64 (k : Int)) rfl (by kernel_rfl) (by kernel_rfl) (by kernel_rfl) (fun _ _ _ h => h) (Or.inl ⟨by rfl, fun w hS => by go_simp⟩) hHeld ?_
          simp only [Act.put, List.getElem_toArray, List.getElem_cons_zero, List.getElem_cons_succ, List.setIfInBounds_toArray, List.set_cons_zero, List.set_cons_succ]
          refine wpAnyH_take (i := 4) (v := .pointer (some ⟨pb, k * 33, none⟩)) rfl (by kernel_rfl) (by kernel_rfl) (by kernel_rfl) (fun _ _ _ h => h) (Or.inl ⟨by rfl, fun w hS => by go_simp⟩) hHeld ?_
          simp only [Act.put, List.getElem_toArray, List.getElem_cons_zero, List.getElem_cons_succ, List.setIfInBounds_toArray, List.set_cons_zero, List.set_cons_succ]
          refine wpAnyH_take (i := 5) (v := .pointer (some ⟨pb, k * 33, none⟩)) rfl (by kernel_rfl) (by kernel_rfl) (by kernel_rfl) (fun _ _ _ h => h) (Or.inl ⟨by rfl, fun w hS => by go_simp⟩) hHeld ?_
          simp only [Act.put, List.getElem_toArray, List.getElem_cons_zero, List.getElem_cons_succ, List.setIfInBounds_toArray, List.set_cons_zero, List.set_cons_succ]
          refine wpAnyH_take (i := 6) (v := .agg (B K)) rfl (by kernel_rfl) (by kernel_rfl) (by kernel_rfl) (fun _ _ _ h => h) (yieldsIf_load_mid rfl 23 (.tmp 88) rfl pb (k * 33) rfl (B K).toList _ (fun w hS => rng_key hS) Tryd.underlying23 rfl HPL.out) hHeld ?_
          simp only [Act.put, List.getElem_toArray, List.getElem_cons_zero, List.getElem_cons_succ, List.setIfInBounds_toArray, List.set_cons_zero, List.set_cons_succ]
          refine wpAnyH_take (i := 7) (v := .slice (some ⟨pb, 0, none⟩) n pc1) rfl (by kernel_rfl) (by kernel_rfl) (by kernel_rfl) (fun _ _ _ h => h) (Or.inl ⟨by rfl, fun w hS => by go_simp⟩) hHeld ?_
          simp only [Act.put, List.getElem_toArray, List.getElem_cons_zero, List.getElem_cons_succ, List.setIfInBounds_toArray, List.set_cons_zero, List.set_cons_succ]
          refine wpAnyH_take (i := 8) (v := .int .i64 (k : Int)) rfl (by kernel_rfl) (by kernel_rfl) (by kernel_rfl) (fun _ _ _ h => h) (Or.inl ⟨by rfl, fun w hS => by go_simp⟩) hHeld ?_
          simp only [Act.put, List.getElem_toArray, List.getElem_cons_zero, List.getElem_cons_succ, List.setIfInBounds_toArray, List.set_cons_zero, List.set_cons_succ]
          refine wpAnyH_take (i := 9) (v := .pointer (some ⟨pb, k * 33, none⟩)) rfl (by kernel_rfl) (by kernel_rfl) (by kernel_rfl) (fun _ _ _ h => h) (Or.inl ⟨by rfl, fun w hS => by go_simp⟩) hHeld ?_
          simp only [Act.put, List.getElem_toArray, List.getElem_cons_zero, List.getElem_cons_succ, List.setIfInBounds_toArray, List.set_cons_zero, List.set_cons_succ]
          refine wpAnyH_take (i := 10) (v := .pointer (some ⟨pb, k * 33 + 32, none⟩)) rfl (by kernel_rfl) (by kernel_rfl) (by kernel_rfl) (fun _ _ _ h => h) (Or.inl ⟨by rfl, fun w hS => by go_simp⟩) hHeld ?_
          simp only [Act.put, List.getElem_toArray, List.getElem_cons_zero, List.getElem_cons_succ, List.setIfInBounds_toArray, List.set_cons_zero, List.set_cons_succ]
          refine wpAnyH_take (i := 11) (v := .slice ua ul uc) rfl (by kernel_rfl) (by kernel_rfl) (by kernel_rfl) (fun _ _ _ h => h) (Or.inl ⟨by rfl, fun w hS => by (have q1 := rng_val hS HKL.out; go_simp)⟩) hHeld ?_
          simp only [Act.put, List.getElem_toArray, List.getElem_cons_zero, List.getElem_cons_succ, List.setIfInBounds_toArray, List.set_cons_zero, List.set_cons_succ]
          refine wpAnyH_ready (rs := [12]) (by kernel_rfl) (by simp) ?_
          refine AllReadyH.cons rfl (fun KQ hK => ?_) AllReadyH.nil
          go_simp
          refine (HPT.out _ (HT.out.grow (below_drewN (Below.refl _ _) 1))).mono ?_
          rintro e z1 ⟨ty, tn, rfl, hty, hA⟩
          have HTY := hidden hty
          have HA := hidden hA
          clear hty hA
          refine hK.out _ _ (HRG.out _ HA.out.low) (fun hHeld => ?_)
          clear hK KQ
          refine wpAnyH_take (i := 13) (v := .tuple #[.int .i64 ty, .int .i64 0]) rfl (by kernel_rfl) (by kernel_rfl) (by kernel_rfl) (fun _ _ _ h => h) (Or.inl ⟨by rfl, fun w hS => by go_simp⟩) hHeld ?_
          simp only [Act.put, List.getElem_toArray, List.getElem_cons_zero, List.getElem_cons_succ, List.setIfInBounds_toArray, List.set_cons_zero, List.set_cons_succ]
          refine wpAnyH_take (i := 14) (v := .int .i64 ty) rfl (by kernel_rfl) (by kernel_rfl) (by kernel_rfl) (fun _ _ _ h => h) (Or.inl ⟨by rfl, fun w hS => by go_simp⟩) hHeld ?_
          simp only [Act.put, List.getElem_toArray, List.getElem_cons_zero, List.getElem_cons_succ, List.setIfInBounds_toArray, List.set_cons_zero, List.set_cons_succ]
          refine wpAnyH_take (i := 15) (v := .int .i64 0) rfl (by kernel_rfl) (by kernel_rfl) (by kernel_rfl) (fun _ _ _ h => h) (Or.inl ⟨by rfl, fun w hS => by go_simp⟩) hHeld ?_
          simp only [Act.put, List.getElem_toArray, List.getElem_cons_zero, List.getElem_cons_succ, List.setIfInBounds_toArray, List.set_cons_zero, List.set_cons_succ]
          refine wpAnyH_take (i := 16) (v := .int .i64 ty) rfl (by kernel_rfl) (by kernel_rfl) (by kernel_rfl) (fun _ _ _ h => h) (Or.inl ⟨by rfl, fun w hS => by go_simp⟩) hHeld ?_
          simp only [Act.put, List.getElem_toArray, List.getElem_cons_zero, List.getElem_cons_succ, List.setIfInBounds_toArray, List.set_cons_zero, List.set_cons_succ]
          refine wpAnyH_take (i := 17) (v := .int .i64 0) rfl (by kernel_rfl) (by kernel_rfl) (by kernel_rfl) (fun _ _ _ h => h) (Or.inl ⟨by rfl, fun w hS => by go_simp⟩) hHeld ?_
          simp only [Act.put, List.getElem_toArray, List.getElem_cons_zero, List.getElem_cons_succ, List.setIfInBounds_toArray, List.set_cons_zero, List.set_cons_succ]
          refine wpAnyH_done (by kernel_rfl) ?_ _
          clear hHeld
          go_wp2_with fail
          exact ⟨⟨k + 1, tn, by omega, rfl, by rw [HTY.out], by go_num, HA.out⟩, by simp [intOf]; exact mea_step k1⟩
      · obtain rfl : k = n := by omega
        have nlt : ¬ (k : Int) < (k : Int) := by omega
        have HT2 : Hid (Tn2 w6 wr g gs L M k 0 one 0) := HT12.out _ _ HT.out
        clear HT
        go_wp2_with fail
        go_loopw [12, 14, 16] (fun ev rv iv wr => ∃ (j two : Nat), j ≤ k ∧ ev = .int .i64 0 ∧ rv = .int .i64 (two : Int) ∧ iv = .int .i64 (j : Int) ∧ Hid (Tn2 w6 wr g gs L M k j one two)) (fun _ _ iv _ => k - (intOf iv).toNat)
        case atStart => exact ⟨0, 0, by omega, rfl, rfl, rfl, HT2.out⟩
        case round =>
          clear HT2
          obtain ⟨j, two, hj, rfl, rfl, rfl, HT⟩ := hrel
          by_cases hlt2 : j < k
          · as_aux_lemma =>
              obtain ⟨pb, K, bs, ua, ul, uc, hsa, hit, hKey, hlen, hrg, hrd⟩ := HL2.out j (by omega)
              subst hsa
              have HKL := hidden hKey.1
              have HPL := hidden (pth_ln K hKey.1)
              have HRG := hidden hrg
              have k0 : (0 : Int) ≤ (j : Int) := by omega
              have k1 : (j : Int) < (k : Int) := by omega
              have hk16 : j < 16 := by omega
              have hwk : wrap64 ((j : Int) + 1) = ((j + 1 : Nat) : Int) := by rw [Go.IntWalk.wrap64_in _ (by omega)]; rfl
              have HPT : Hid (∀ w', Tn2 w6 w' g gs L M k j one two → Calls Tryd.prog 5 #[.pointer (some ⟨g, 0, none⟩), .int .i64 (two : Int), .agg (B K), .slice ua ul uc] w' fun e w'' => ∃ (ty : Int) (tn : Nat), e = .returned (.tuple #[.int .i64 ty, .int .i64 0]) ∧ ty = (tn : Int) ∧ Tn2 w6 w'' g gs L M k (j + 1) one tn) := fun w' h => tn_put2 h HAM.out hn16 hk16 hit hKey hrd HLD.out hlen
              generalize (two : Int) = ry at HPT ⊢
              clear hit hKey hlen hrg hrd hj HL1 HL2
              go_wp2_with fail
              refine wp_region_held_drew (S := fun w' => w'.rangeAt pb (j * 33) (encP K (.slice ua ul uc))) (by kernel_rfl) (HRG.out _ (grow_trans HT.out.low (below_drewN (Below.refl _ _) 1))) (fun hHeld => ?_)
              refine wpAnyH_take (i := 0) (v := .pointer (some ⟨g, 0, none⟩)) rfl (by kernel_rfl) (by kernel_rfl) (by kernel_rfl) (fun _ _ _ h => h) (Or.inl ⟨by rfl, fun w hS => by go_simp⟩) hHeld ?_
              simp only [Act.put, List.getElem_toArray, List.getElem_cons_zero, List.setIfInBounds_toArray, List.set_cons_zero, List.set_cons_succ]
              refine wpAnyH_take (i := 1) (v := .int .i64 ry) rfl (by kernel_rfl) (by kernel_rfl) (by kernel_rfl) (fun _ _ _ h => h) (Or.inl ⟨by rfl, fun w hS => by go_simp⟩) hHeld ?_
              simp only [Act.put, List.getElem_toArray, List.getElem_cons_zero, List.getElem_cons_succ, List.setIfInBounds_toArray, List.set_cons_zero, List.set_cons_succ]
              refine wpAnyH_take (i := 2) (v := .slice (some ⟨pb, 0, none⟩) k lc) rfl (by kernel_rfl) (by kernel_rfl) (by kernel_rfl) (fun _ _ _ h => h) (Or.inl ⟨by rfl, fun w hS => by go_simp⟩) hHeld ?_
              simp only [Act.put, List.getElem_toArray, List.getElem_cons_zero, List.getElem_cons_succ, List.setIfInBounds_toArray, List.set_cons_zero, List.set_cons_succ]
              refine wpAnyH_take (i := 3) (v := .int .i64 (j : Int)) rfl (by kernel_rfl) (by kernel_rfl) (by kernel_rfl) (fun _ _ _ h => h) (Or.inl ⟨by rfl, fun w hS => by go_simp⟩) hHeld ?_
              simp only [Act.put, List.getElem_toArray, List.getElem_cons_zero, List.getElem_cons_succ, List.setIfInBounds_toArray, List.set_cons_zero, List.set_cons_succ]
              refine wpAnyH_take (i := 4) (v := .pointer (some ⟨pb, j * 33, none⟩)) rfl (by kernel_rfl) (by kernel_rfl) (by kernel_rfl) (fun _ _ _ h => h) (Or.inl ⟨by rfl, fun w hS => by go_simp⟩) hHeld ?_
              simp only [Act.put, List.getElem_toArray, List.getElem_cons_zero, List.getElem_cons_succ, List.setIfInBounds_toArray, List.set_cons_zero, List.set_cons_succ]
              refine wpAnyH_take (i := 5) (v := .pointer (some ⟨pb, j * 33, none⟩)) rfl (by kernel_rfl) (by kernel_rfl) (by kernel_rfl) (fun _ _ _ h => h) (Or.inl ⟨by rfl, fun w hS => by go_simp⟩) hHeld ?_
              simp only [Act.put, List.getElem_toArray, List.getElem_cons_zero, List.getElem_cons_succ, List.setIfInBounds_toArray, List.set_cons_zero, List.set_cons_succ]
              refine wpAnyH_take (i := 6) (v := .agg (B K)) rfl (by kernel_rfl) (by kernel_rfl) (by kernel_rfl) (fun _ _ _ h => h) (yieldsIf_load_mid rfl 23 (.tmp 112) rfl pb (j * 33) rfl (B K).toList _ (fun w hS => rng_key hS) Tryd.underlying23 rfl HPL.out) hHeld ?_
              simp only [Act.put, List.getElem_toArray, List.getElem_cons_zero, List.getElem_cons_succ, List.setIfInBounds_toArray, List.set_cons_zero, List.set_cons_succ]
              refine wpAnyH_take (i := 7) (v := .slice (some ⟨pb, 0, none⟩) k lc) rfl (by kernel_rfl) (by kernel_rfl) (by kernel_rfl) (fun _ _ _ h => h) (Or.inl ⟨by rfl, fun w hS => by go_simp⟩) hHeld ?_
              simp only [Act.put, List.getElem_toArray, List.getElem_cons_zero, List.getElem_cons_succ, List.setIfInBounds_toArray, List.set_cons_zero, List.set_cons_succ]
              refine wpAnyH_take (i := 8) (v := .int .i64 (j : Int)) rfl (by kernel_rfl) (by kernel_rfl) (by kernel_rfl) (fun _ _ _ h => h) (Or.inl ⟨by rfl, fun w hS => by go_simp⟩) hHeld ?_
              simp only [Act.put, List.getElem_toArray, List.getElem_cons_zero, List.getElem_cons_succ, List.setIfInBounds_toArray, List.set_cons_zero, List.set_cons_succ]
              refine wpAnyH_take (i := 9) (v := .pointer (some ⟨pb, j * 33, none⟩)) rfl (by kernel_rfl) (by kernel_rfl) (by kernel_rfl) (fun _ _ _ h => h) (Or.inl ⟨by rfl, fun w hS => by go_simp⟩) hHeld ?_
              simp only [Act.put, List.getElem_toArray, List.getElem_cons_zero, List.getElem_cons_succ, List.setIfInBounds_toArray, List.set_cons_zero, List.set_cons_succ]
              refine wpAnyH_take (i := 10) (v := .pointer (some ⟨pb, j * 33 + 32, none⟩)) rfl (by kernel_rfl) (by kernel_rfl) (by kernel_rfl) (fun _ _ _ h => h) (Or.inl ⟨by rfl, fun w hS => by go_simp⟩) hHeld ?_
              simp only [Act.put, List.getElem_toArray, List.getElem_cons_zero, List.getElem_cons_succ, List.setIfInBounds_toArray, List.set_cons_zero, List.set_cons_succ]
              refine wpAnyH_take (i := 11) (v := .slice ua ul uc) rfl (by kernel_rfl) (by kernel_rfl) (by kernel_rfl) (fun _ _ _ h => h) (Or.inl ⟨by rfl, fun w hS => by (have q1 := rng_val hS HKL.out; go_simp)⟩) hHeld ?_
              simp only [Act.put, List.getElem_toArray, List.getElem_cons_zero, List.getElem_cons_succ, List.setIfInBounds_toArray, List.set_cons_zero, List.set_cons_succ]
              refine wpAnyH_ready (rs := [12]) (by kernel_rfl) (by simp) ?_
              refine AllReadyH.cons rfl (fun KQ hK => ?_) AllReadyH.nil
              go_simp
              refine (HPT.out _ (HT.out.grow (below_drewN (Below.refl _ _) 1))).mono ?_
              rintro e z1 ⟨ty, tn, rfl, hty, hA⟩
              have HTY := hidden hty
              have HA := hidden hA
              clear hty hA
              refine hK.out _ _ (HRG.out _ HA.out.low) (fun hHeld => ?_)
              clear hK KQ
              refine wpAnyH_take (i := 13) (v := .tuple #[.int .i64 ty, .int .i64 0]) rfl (by kernel_rfl) (by kernel_rfl) (by kernel_rfl) (fun _ _ _ h => h) (Or.inl ⟨by rfl, fun w hS => by go_simp⟩) hHeld ?_
              simp only [Act.put, List.getElem_toArray, List.getElem_cons_zero, List.getElem_cons_succ, List.setIfInBounds_toArray, List.set_cons_zero, List.set_cons_succ]
              refine wpAnyH_take (i := 14) (v := .int .i64 ty) rfl (by kernel_rfl) (by kernel_rfl) (by kernel_rfl) (fun _ _ _ h => h) (Or.inl ⟨by rfl, fun w hS => by go_simp⟩) hHeld ?_
              simp only [Act.put, List.getElem_toArray, List.getElem_cons_zero, List.getElem_cons_succ, List.setIfInBounds_toArray, List.set_cons_zero, List.set_cons_succ]
              refine wpAnyH_take (i := 15) (v := .int .i64 0) rfl (by kernel_rfl) (by kernel_rfl) (by kernel_rfl) (fun _ _ _ h => h) (Or.inl ⟨by rfl, fun w hS => by go_simp⟩) hHeld ?_
              simp only [Act.put, List.getElem_toArray, List.getElem_cons_zero, List.getElem_cons_succ, List.setIfInBounds_toArray, List.set_cons_zero, List.set_cons_succ]
              refine wpAnyH_take (i := 16) (v := .int .i64 ty) rfl (by kernel_rfl) (by kernel_rfl) (by kernel_rfl) (fun _ _ _ h => h) (Or.inl ⟨by rfl, fun w hS => by go_simp⟩) hHeld ?_
              simp only [Act.put, List.getElem_toArray, List.getElem_cons_zero, List.getElem_cons_succ, List.setIfInBounds_toArray, List.set_cons_zero, List.set_cons_succ]
              refine wpAnyH_take (i := 17) (v := .int .i64 0) rfl (by kernel_rfl) (by kernel_rfl) (by kernel_rfl) (fun _ _ _ h => h) (Or.inl ⟨by rfl, fun w hS => by go_simp⟩) hHeld ?_
              simp only [Act.put, List.getElem_toArray, List.getElem_cons_zero, List.getElem_cons_succ, List.setIfInBounds_toArray, List.set_cons_zero, List.set_cons_succ]
              refine wpAnyH_done (by kernel_rfl) ?_ _
              clear hHeld
              go_wp2_with fail
              exact ⟨⟨j + 1, tn, by omega, rfl, by rw [HTY.out], by go_num, HA.out⟩, by simp [intOf]; exact mea_step k1⟩
          · obtain rfl : j = k := by omega
            have nlt2 : ¬ (j : Int) < (j : Int) := by omega
            obtain ⟨D, o, hDl, hd1, hd2, hoc⟩ := tn_end HT.out (by rw [HMT.out]; exact HPM.out)
            have HD1 := hidden hd1
            have HD2 := hidden hd2
            have HOC := hidden hoc
            have hE := hash_eq D D hDl hDl
            simp only [decide_true] at hE
            obtain ⟨wo, rfl⟩ : ∃ x, x = wr := ⟨_, rfl⟩
            have HTO := HT
            clear hd1 hd2 hoc HT hlt2 hj
            go_wp2_with (first
              | (go_at_call 14; refine (HOC.out _ (Below.refl _ _)).mono ?_; rintro e y1 ⟨rfl, b1⟩; have HQ1 := hidden b1; clear b1))
            go_loopw [18] (fun iv wr => ∃ (q : Nat), q ≤ j ∧ iv = .int .i64 (q : Int) ∧ Hid (Below wo.heap.size wo wr)) (fun iv _ => j - (intOf iv).toNat)
            case atStart => exact ⟨0, by omega, rfl, HQ1.out⟩
            case round =>
              clear HQ1
              obtain ⟨q, hq, rfl, HQ⟩ := hrel
              by_cases hlt3 : q < j
              · as_aux_lemma =>
                  obtain ⟨pb, K, bs, ua, ul, uc, hsa, hit, hKey, hlen, hrg, hrd⟩ := HL1.out q (by omega)
                  subst hsa
                  have HKL := hidden hKey.1
                  have HPL := hidden (pth_ln K hKey.1)
                  have HRG := hidden hrg
                  have k0 : (0 : Int) ≤ (q : Int) := by omega
                  have k1 : (q : Int) < (j : Int) := by omega
                  have hk16 : q < 16 := by omega
                  have hwk : wrap64 ((q : Int) + 1) = ((q + 1 : Nat) : Int) := by rw [Go.IntWalk.wrap64_in _ (by omega)]; rfl
                  have HPT : Hid (∀ w', Below wo.heap.size wo w' → Calls Tryd.prog 5 #[.pointer (some ⟨g, 0, none⟩), .int .i64 (one : Int), .agg (B K), .slice ua ul uc] w' fun e w'' => e = .returned (.tuple #[.int .i64 (one : Int), .int .i64 0]) ∧ Below w'.heap.size w' w'') := fun w' h => tn_same (HTO.out.grow h) (by omega) (List.mem_of_getElem? hit) hKey (hrd w' (grow_trans HTO.out.low h)) hlen
                  generalize (one : Int) = ry at HPT ⊢
                  clear hit hKey hlen hrg hrd hq HL1 HL2
                  go_wp2_with fail
                  refine wp_region_held_drew (S := fun w' => w'.rangeAt pb (q * 33) (encP K (.slice ua ul uc))) (by kernel_rfl) (HRG.out _ (grow_trans HTO.out.low (grow_trans HQ.out (below_drewN (Below.refl _ _) 1)))) (fun hHeld => ?_)
                  refine wpAnyH_take (i := 0) (v := .pointer (some ⟨g, 0, none⟩)) rfl (by kernel_rfl) (by kernel_rfl) (by kernel_rfl) (fun _ _ _ h => h) (Or.inl ⟨by rfl, fun w hS => by go_simp⟩) hHeld ?_
                  simp only [Act.put, List.getElem_toArray, List.getElem_cons_zero, List.setIfInBounds_toArray, List.set_cons_zero, List.set_cons_succ]
                  refine wpAnyH_take (i := 1) (v := .int .i64 ry) rfl (by kernel_rfl) (by kernel_rfl) (by kernel_rfl) (fun _ _ _ h => h) (Or.inl ⟨by rfl, fun w hS => by go_simp⟩) hHeld ?_
                  simp only [Act.put, List.getElem_toArray, List.getElem_cons_zero, List.getElem_cons_succ, List.setIfInBounds_toArray, List.set_cons_zero, List.set_cons_succ]
                  refine wpAnyH_take (i := 2) (v := .slice (some ⟨pb, 0, none⟩) j pc1) rfl (by kernel_rfl) (by kernel_rfl) (by kernel_rfl) (fun _ _ _ h => h) (Or.inl ⟨by rfl, fun w hS => by go_simp⟩) hHeld ?_
                  simp only [Act.put, List.getElem_toArray, List.getElem_cons_zero, List.getElem_cons_succ, List.setIfInBounds_toArray, List.set_cons_zero, List.set_cons_succ]
                  refine wpAnyH_take (i := 3) (v := .int .i64 (q : Int)) rfl (by kernel_rfl) (by kernel_rfl) (by kernel_rfl) (fun _ _ _ h => h) (Or.inl ⟨by rfl, fun w hS => by go_simp⟩) hHeld ?_
                  simp only [Act.put, List.getElem_toArray, List.getElem_cons_zero, List.getElem_cons_succ, List.setIfInBounds_toArray, List.set_cons_zero, List.set_cons_succ]
                  refine wpAnyH_take (i := 4) (v := .pointer (some ⟨pb, q * 33, none⟩)) rfl (by kernel_rfl) (by kernel_rfl) (by kernel_rfl) (fun _ _ _ h => h) (Or.inl ⟨by rfl, fun w hS => by go_simp⟩) hHeld ?_
                  simp only [Act.put, List.getElem_toArray, List.getElem_cons_zero, List.getElem_cons_succ, List.setIfInBounds_toArray, List.set_cons_zero, List.set_cons_succ]
                  refine wpAnyH_take (i := 5) (v := .pointer (some ⟨pb, q * 33, none⟩)) rfl (by kernel_rfl) (by kernel_rfl) (by kernel_rfl) (fun _ _ _ h => h) (Or.inl ⟨by rfl, fun w hS => by go_simp⟩) hHeld ?_
                  simp only [Act.put, List.getElem_toArray, List.getElem_cons_zero, List.getElem_cons_succ, List.setIfInBounds_toArray, List.set_cons_zero, List.set_cons_succ]
                  refine wpAnyH_take (i := 6) (v := .agg (B K)) rfl (by kernel_rfl) (by kernel_rfl) (by kernel_rfl) (fun _ _ _ h => h) (yieldsIf_load_mid rfl 23 (.tmp 138) rfl pb (q * 33) rfl (B K).toList _ (fun w hS => rng_key hS) Tryd.underlying23 rfl HPL.out) hHeld ?_
                  simp only [Act.put, List.getElem_toArray, List.getElem_cons_zero, List.getElem_cons_succ, List.setIfInBounds_toArray, List.set_cons_zero, List.set_cons_succ]
                  refine wpAnyH_take (i := 7) (v := .slice (some ⟨pb, 0, none⟩) j pc1) rfl (by kernel_rfl) (by kernel_rfl) (by kernel_rfl) (fun _ _ _ h => h) (Or.inl ⟨by rfl, fun w hS => by go_simp⟩) hHeld ?_
                  simp only [Act.put, List.getElem_toArray, List.getElem_cons_zero, List.getElem_cons_succ, List.setIfInBounds_toArray, List.set_cons_zero, List.set_cons_succ]
                  refine wpAnyH_take (i := 8) (v := .int .i64 (q : Int)) rfl (by kernel_rfl) (by kernel_rfl) (by kernel_rfl) (fun _ _ _ h => h) (Or.inl ⟨by rfl, fun w hS => by go_simp⟩) hHeld ?_
                  simp only [Act.put, List.getElem_toArray, List.getElem_cons_zero, List.getElem_cons_succ, List.setIfInBounds_toArray, List.set_cons_zero, List.set_cons_succ]
                  refine wpAnyH_take (i := 9) (v := .pointer (some ⟨pb, q * 33, none⟩)) rfl (by kernel_rfl) (by kernel_rfl) (by kernel_rfl) (fun _ _ _ h => h) (Or.inl ⟨by rfl, fun w hS => by go_simp⟩) hHeld ?_
                  simp only [Act.put, List.getElem_toArray, List.getElem_cons_zero, List.getElem_cons_succ, List.setIfInBounds_toArray, List.set_cons_zero, List.set_cons_succ]
                  refine wpAnyH_take (i := 10) (v := .pointer (some ⟨pb, q * 33 + 32, none⟩)) rfl (by kernel_rfl) (by kernel_rfl) (by kernel_rfl) (fun _ _ _ h => h) (Or.inl ⟨by rfl, fun w hS => by go_simp⟩) hHeld ?_
                  simp only [Act.put, List.getElem_toArray, List.getElem_cons_zero, List.getElem_cons_succ, List.setIfInBounds_toArray, List.set_cons_zero, List.set_cons_succ]
                  refine wpAnyH_take (i := 11) (v := .slice ua ul uc) rfl (by kernel_rfl) (by kernel_rfl) (by kernel_rfl) (fun _ _ _ h => h) (Or.inl ⟨by rfl, fun w hS => by (have q1 := rng_val hS HKL.out; go_simp)⟩) hHeld ?_
                  simp only [Act.put, List.getElem_toArray, List.getElem_cons_zero, List.getElem_cons_succ, List.setIfInBounds_toArray, List.set_cons_zero, List.set_cons_succ]
                  refine wpAnyH_ready (rs := [12]) (by kernel_rfl) (by simp) ?_
                  refine AllReadyH.cons rfl (fun KQ hK => ?_) AllReadyH.nil
                  go_simp
                  refine (HPT.out _ (grow_trans HQ.out (below_drewN (Below.refl _ _) 1))).mono ?_
                  rintro e z1 ⟨rfl, a1⟩
                  have HQE : Hid (Below wo.heap.size wo z1) := grow_trans (grow_trans HQ.out (below_drewN (Below.refl _ _) 1)) a1
                  clear a1
                  refine hK.out _ _ (HRG.out _ (grow_trans HTO.out.low HQE.out)) (fun hHeld => ?_)
                  clear hK KQ
                  refine wpAnyH_take (i := 13) (v := .tuple #[.int .i64 ry, .int .i64 0]) rfl (by kernel_rfl) (by kernel_rfl) (by kernel_rfl) (fun _ _ _ h => h) (Or.inl ⟨by rfl, fun w hS => by go_simp⟩) hHeld ?_
                  simp only [Act.put, List.getElem_toArray, List.getElem_cons_zero, List.getElem_cons_succ, List.setIfInBounds_toArray, List.set_cons_zero, List.set_cons_succ]
                  refine wpAnyH_take (i := 14) (v := .int .i64 ry) rfl (by kernel_rfl) (by kernel_rfl) (by kernel_rfl) (fun _ _ _ h => h) (Or.inl ⟨by rfl, fun w hS => by go_simp⟩) hHeld ?_
                  simp only [Act.put, List.getElem_toArray, List.getElem_cons_zero, List.getElem_cons_succ, List.setIfInBounds_toArray, List.set_cons_zero, List.set_cons_succ]
                  refine wpAnyH_take (i := 15) (v := .int .i64 0) rfl (by kernel_rfl) (by kernel_rfl) (by kernel_rfl) (fun _ _ _ h => h) (Or.inl ⟨by rfl, fun w hS => by go_simp⟩) hHeld ?_
                  simp only [Act.put, List.getElem_toArray, List.getElem_cons_zero, List.getElem_cons_succ, List.setIfInBounds_toArray, List.set_cons_zero, List.set_cons_succ]
                  refine wpAnyH_take (i := 16) (v := .int .i64 ry) rfl (by kernel_rfl) (by kernel_rfl) (by kernel_rfl) (fun _ _ _ h => h) (Or.inl ⟨by rfl, fun w hS => by go_simp⟩) hHeld ?_
                  simp only [Act.put, List.getElem_toArray, List.getElem_cons_zero, List.getElem_cons_succ, List.setIfInBounds_toArray, List.set_cons_zero, List.set_cons_succ]
                  refine wpAnyH_take (i := 17) (v := .int .i64 0) rfl (by kernel_rfl) (by kernel_rfl) (by kernel_rfl) (fun _ _ _ h => h) (Or.inl ⟨by rfl, fun w hS => by go_simp⟩) hHeld ?_
                  simp only [Act.put, List.getElem_toArray, List.getElem_cons_zero, List.getElem_cons_succ, List.setIfInBounds_toArray, List.set_cons_zero, List.set_cons_succ]
                  refine wpAnyH_done (by kernel_rfl) ?_ _
                  clear hHeld
                  go_wp2_with fail
                  exact ⟨⟨q + 1, by omega, by go_num, HQE.out⟩, by simp [intOf]; exact mea_step k1⟩
              · obtain rfl : q = j := by omega
                have nlt3 : ¬ (q : Int) < (q : Int) := by omega
                have HLZ := hidden (HLD.out _ (grow_trans HTO.out.low HQ.out))
                have HLG : Hid (∀ w', Below wo.heap.size wo w' → Laid w') := fun w' hb => HLD.out _ (grow_trans HTO.out.low hb)
                generalize (two : Int) = ty at HD2 ⊢
                generalize (one : Int) = oy at HD1 ⊢
                go_wp2_with (first
                  | (go_at_call 15; have mk := md1; clear mk; refine (HD2.out _ HQ2.out (HLG.out _ HQ2.out)).mono ?_; rintro e y3 ⟨rfl, b3⟩; have HQ3 := hidden (grow_trans HQ2.out b3); clear b3)
                  | (go_at_call 15; refine (HD1.out _ HQ.out HLZ.out).mono ?_; rintro e y2 ⟨rfl, b2⟩; have HQ2 := hidden (grow_trans HQ.out b2); clear b2; have md1 : Hid True := trivial)
                  | (go_at_call 14; refine (HOC.out _ HQ3.out).mono ?_; rintro e y4 ⟨rfl, b4⟩; have HQ4 := hidden (grow_trans HQ3.out b4); clear b4))
                go_ret
                exact ⟨rfl, grow_trans HW6.out (grow_trans HTO.out.low HQ4.out)⟩

end Go.Proofs.YtlinalcjdpikeaaDoor

/- What the two tables of sha hold when a statement's call begins, as the rows list it; and the start that the program's own text lays. -/
namespace Go.Proofs.YtlinalcjdpikeaaDoor
set_option maxRecDepth 20000
open Go.ChangeShapes Go.WideShapes Go.ChangeAt Go.WideMaps Go.WideElems Go.RowKit

abbrev laid2 : List (String × DataW Unit) := Rows.putNoneRow.laid
abbrev nameOf (i : Nat) : String := (laid2.map (·.1)).getD i Rows.putNoneRow.func

theorem gFirst : Tryd.prog.globalNamed (nameOf 0) = some 0 := by kernel_rfl
theorem gRounds : Tryd.prog.globalNamed (nameOf 1) = some 1 := by kernel_rfl
theorem tFirst : (Tryd.prog.globals[0]?).map (·.type) = some 120 := by kernel_rfl
theorem tRounds : (Tryd.prog.globals[1]?).map (·.type) = some 128 := by kernel_rfl

/-- The door's own heap meets the condition. -/
theorem door_met (os : Os) (args : Array Value) : laidMetH Tryd.prog laid2 ((World.doorLaid Tryd.prog 400 os).forCall (fun _ _ => 0) ⟨#[], args, []⟩).memory :=
  laidMetH_of_parts3 (fuel := 8) (laidMet_of_run' 8 (by kernel_rfl) (by kernel_rfl)) (by kernel_rfl) (by kernel_rfl)

theorem tab_first : (Rows.laid_rootcellar_sha_first : DataW Unit) = Lib.tabData .u32 hs := rfl
theorem tab_rounds : (Rows.laid_rootcellar_sha_rounds : DataW Unit) = Lib.tabData .u32 ks := rfl
theorem cells_w8 : Tryd.prog.cellsOf 120 = 8 := by kernel_rfl
theorem cells_w64 : Tryd.prog.cellsOf 128 = 64 := by kernel_rfl
theorem cells_w : Tryd.prog.cellsOf 119 = 1 := by kernel_rfl

/-- What the condition gives the walks. -/
theorem of_laid {W : World} (h : laidMetH Tryd.prog laid2 W) : Laid W := by
  rw [MakeChecks.laidMetH_plain _ _ _ (by kernel_rfl)] at h
  obtain ⟨ps, ⟨g0, t0, cs0, f0, p0, q0, hg0, ht0, hv0, hd0, ⟨g1, t1, cs1, f1, p1, q1, hg1, ht1, hv1, hd1, _, _⟩, _⟩, _, _⟩ := h
  obtain rfl := Option.some.inj (gFirst.symm.trans hg0)
  obtain rfl := Option.some.inj (gRounds.symm.trans hg1)
  obtain rfl := Option.some.inj (tFirst.symm.trans ht0)
  obtain rfl := Option.some.inj (tRounds.symm.trans ht1)
  rw [tab_first] at hd0
  rw [tab_rounds] at hd1
  have e0 := Lib.cells_of_tab Tryd.underlying120 Tryd.underlying119 cells_w cells_w8 hd0
  have e1 := Lib.cells_of_tab Tryd.underlying128 Tryd.underlying119 cells_w cells_w64 hd1
  have c1 : ∀ i, i < 64 → W.cell? ⟨1, i, none⟩ = some (.int .u32 (ks.getD i 0)) := by
    intro i hi
    rw [World.var?_cell hg1 hv1 i, ← Array.getElem?_toList, e1, List.getElem?_map, List.getElem?_eq_getElem (show i < ks.length from hi)]
    simp [List.getD, show i < ks.length from hi]
  have c0 : ∀ i, i < 8 → W.cell? ⟨0, i, none⟩ = some (.int .u32 (hs.getD i 0)) := by
    intro i hi
    rw [World.var?_cell hg0 hv0 i, ← Array.getElem?_toList, e0, List.getElem?_map, List.getElem?_eq_getElem (show i < hs.length from hi)]
    simp [List.getD, show i < hs.length from hi]
  exact ⟨block_lt_of_cell (c1 0 (by omega)), c1, c0⟩

end Go.Proofs.YtlinalcjdpikeaaDoor

/- PutTurns: writes of unlike keys lead to the same digest in whatever order; writes of what is there change nothing. No condition. -/
namespace Go.Proofs.YtlinalcjdpikeaaDoor
set_option maxRecDepth 20000
open Go.ChangeShapes Go.WideShapes Go.ChangeAt Go.RowKit

namespace putTurns
set_option maxRecDepth 100000 in
theorem lifted (os : Os) (started : os.Started) (H : Type) (enc : TypeId × Value → H) :
    ReturnsInHanded {} Tryd.checked os 4 .any (fun w args => (Rows.putTurnsSpec.pre enc Tryd.prog Tryd.f4 [] false w args ∧ laidMetH Tryd.prog laid2 w) ∧ sizedMet enc Tryd.prog Tryd.f4 (OpenSpec.ofChange Rows.putTurnsSpec) false w args)
      (Rows.putTurnsSpec.post enc Tryd.prog Tryd.f4 false true false false) := by
  refine returnsInHanded_of_change_and (C := Tryd.checked) (X := fun w _ => laidMetH Tryd.prog laid2 w) (fun _ _ _ hh h => h.of_heap hh) ownK started (by kernel_rfl) Tryd.func4
    (ChangeSpec.witness_shaped (enc := enc) (C := Tryd.checked) (os := os) (X := fun w _ => laidMetH Tryd.prog laid2 w) false (World.doorLaid Tryd.prog 400 os) #[.slice none 0 0, .slice none 0 0] 8 rfl (World.shaped_of_RefB (by kernel_rfl) (by kernel_rfl)) (by kernel_rfl) (by kernel_rfl) (by kernel_rfl) (door_met os _)) ?_
  intro W base args ds gs before hval0 hW hcnd hsz0 hL _
  have hval : ∀ (j : Nat) t v, Tryd.f4.params[j]? = some t → args[j]? = some v → Value.okWide Tryd.prog W .any base t v := hval0
  have hW' := hW
  obtain ⟨p, q, hA0, hV, rfl, hfz, hnd⟩ := hW
  have hA : DataW.TrodAll enc Tryd.prog W 0 (fun _ => true) true Tryd.f4.params.toList args.toList ds p := hA0
  have hsz : (DataW.weightsEach Tryd.prog (Tryd.f4.params.toList ++ Rows.putTurnsSpec.plain.varTypes Tryd.prog) (ds ++ gs)).all (· ≤ reachBytes) = true := hsz0
  rw [Tryd.params4] at hA hval hsz
  obtain ⟨v0, vs0, d0, ds0, p0, q0, hargs, rfl, rfl, h0, r0⟩ := trodAll_cons hA
  obtain ⟨v1, vs1, d1, ds1, p1, q1, rfl, rfl, rfl, h1, r1⟩ := trodAll_cons r0
  obtain ⟨rfl, rfl, rfl⟩ := trodAll_nil r1
  obtain rfl : args = #[v0, v1] := by cases args; simp_all
  obtain ⟨rfl, rfl⟩ := trodVars_none hV
  have lt0 : ∀ x ∈ p0, x.block < W.heap.size := by obtain ⟨m, hm⟩ := h0; exact DataW.trod_lt m _ _ _ hm
  have lt1 : ∀ x ∈ p1, x.block < W.heap.size := by obtain ⟨m, hm⟩ := h1; exact DataW.trod_lt m _ _ _ hm
  obtain ⟨V, es, hpr, _, _⟩ := arg_pairs (hval 0 39 v0 rfl rfl) h0 hsz 0 rfl rfl
  obtain ⟨ts, hts⟩ := arg_turns9 (hval 1 40 v1 rfl rfl) h1
  clear hA0 hval0
  refine (putTurns_walk v0 v1 V es ts W (of_laid hL) hpr hts).mono fun e W' ⟨he, bel⟩ => ?_
  subst he
  have t0 := Below.trod laidOut (by kernel_rfl) (of_decide_eq_true (by kernel_rfl)) h0 bel lt0
  have t1 := Below.trod laidOut (by kernel_rfl) (of_decide_eq_true (by kernel_rfl)) h1 bel lt1
  exact ⟨_, rfl, _, _, _, [], _, [], hW', trodAll_mk1 (shut_bool Tryd.underlying4 _), (trodAll_cons_mk t0 (trodAll_cons_mk t1 trodAll_mk0)), rfl, bel.frame _, fun h => by cases h⟩

theorem over : Rows.PutTurnsSaid :=
  OpenClaim.holds_of_wide 4 Tryd.f4 rfl rfl rfl rfl rfl rfl rfl ⟨rfl, rfl, rfl, rfl, rfl⟩ rfl rfl rfl rfl rfl (by kernel_rfl) Tryd.func4 (by kernel_rfl)
    (of_decide_eq_true (by kernel_rfl)) (by unfold Func.isWrapper; first | (rw [if_pos (by decide +kernel)]; kernel_rfl) | (rw [if_neg (by decide +kernel)]; exact ⟨rfl, rfl⟩))
    (fun os started H enc _ => lifted os started H enc)
end putTurns

theorem putTurns_holds : Rows.PutTurnsCardSaid :=
  Claim7.holds_tied_plain_at .later [] [.data, .data] true (true, "3a372466e1cae8a292c4f2829ef76f63ab6c1506a6b5e89cc4afacd29844c32f") false
    putTurns.over (fun _ h => by cases h) (by kernel_rfl) (fun _ h => by cases h) putTurns_row_tie rfl ⟨rfl, rfl⟩ (by kernel_rfl) rfl
    (fun f fn hf hfn => by
      obtain rfl : f = 4 := Option.some.inj ((show Tryd.prog.funcNamed Rows.putTurnsRow.func = some 4 by kernel_rfl).symm.trans hf) |>.symm
      obtain rfl : fn = Tryd.f4 := (Option.some.inj (Tryd.func4.symm.trans hfn)).symm
      exact ⟨by kernel_rfl, fun j t ht => by
        rw [Tryd.params4] at ht
        have hm : t ∈ [39, 40] := by simpa using Array.mem_of_getElem? ht
        have hall : ([39, 40].all fun u => !Tryd.prog.wantsStandIn u) = true := by kernel_rfl
        exact (show Tryd.prog.wantsStandIn t = false by simpa using List.all_eq_true.1 hall t hm)⟩)
    (by kernel_rfl)
end Go.Proofs.YtlinalcjdpikeaaDoor
#print axioms Go.Proofs.YtlinalcjdpikeaaDoor.putTurns_holds
