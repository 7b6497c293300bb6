/- walk.fork and walk.Handles, as contracts. -/
import Derived.Test.YtnnmfgnommbmkaaGreatDoorLa01
import Derived.Test.YtnnmfgnommbmkaaGreatDoorLa09
import Derived.Test.YtnnmfgnommbmkaaGreatDoorLa31
import Derived.Test.YtnnmfgnommbmkaaGreatDoorLa24
import Derived.Test.YtnnmfgnommbmkaaGreatDoorLa10
namespace Go.Proofs.YtnnmfgnommbmkaaGreatDoor
set_option maxRecDepth 20000
open Go.RowKit

theorem pth_ln (D : List Int) (h : D.length = 32) : (Tryz.prog.info? 32).map (·.size) = some (B D).toList.length := by rw [B_toList, List.length_map, h]; exact size_path

set_option maxHeartbeats 2000000 in
theorem fork_any {w : World} {v : Value} {ct : Int → Nat} {ca : Int → Ce} (V : Vw w v true ct ca) (h : Int) (K : List Int) (hK : Key K) (hk : (ca h).kind = 2) (hd : (ca h).dp < 256) : Calls Tryz.prog 91 #[v, .int .i64 h, .agg (B K)] w fun e w' => e = .returned (.tuple #[.int .i64 ((if kb K (ca h).dp = 1 then (ca h).r else (ca h).l : Nat) : Int), .int .i64 ((if kb K (ca h).dp = 1 then (ca h).l else (ca h).r : Nat) : Int)]) ∧ Below w.heap.size w w' := by
  have HSD : Hid (∀ w', Below w.heap.size w w' → Calls Tryz.prog 25 #[v, .int .i64 h] w' fun e w'' => e = .returned (.tuple #[.int .i64 ((ca h).l : Int), .int .i64 ((ca h).r : Int)]) ∧ Below w'.heap.size w' w'') := fun w' hb => sides_any (V.grow hb) h
  have HDP : Hid (∀ w', Below w.heap.size w w' → Calls Tryz.prog 27 #[v, .int .i64 h] w' fun e w'' => e = .returned (.int .i64 ((ca h).dp : Int)) ∧ Below w'.heap.size w' w'') := fun w' hb => by
    have := depth_any (V.grow hb) h
    rwa [show vDp true (ca h) = ((ca h).dp : Int) by simp [vDp, hk]] at this
  have HBT : Hid (∀ w', Calls Tryz.prog 26 #[.agg (B K), .int .i64 ((ca h).dp : Int)] w' fun e w'' => e = .returned (.int .i64 (kb K (ca h).dp)) ∧ Below w'.heap.size w' w'') := fun w' => by
    have := bit_any K ((ca h).dp : Int) w' hK
    rwa [kbi_in K _ hd] at this
  have HPL := hidden (pth_ln K hK.1)
  clear V hk hd hK
  generalize (ca h).l = l at HSD ⊢
  generalize (ca h).r = r at HSD ⊢
  generalize (ca h).dp = d at HDP HBT ⊢
  have hq := kb_two K d
  generalize kb K d = q at HBT hq ⊢
  generalize hdd : (d : Int) = dd at HDP HBT
  clear hdd
  rcases hq with rfl | rfl
  · rw [if_neg (by omega), if_neg (by omega)]
    go_enter Tryz.func91, Tryz.ntmps91
    go_wp2_with (first
      | ((with_reducible refine at_bxd 5 ?_); refine wpList_bx _ rfl _ _ rfl _ rfl ?_; intro w1 b5 hg5 hl5 B5 q5; have HB5 := hidden B5; have HQ5 := hidden q5; clear hg5 hl5 B5 q5)
      | (go_at_call 25; refine (HSD.out _ HQ5.out).mono ?_; rintro e w2 ⟨rfl, b2⟩; have HB52 := hidden (HB5.out.grow b2); have HQ2 := hidden (grow_trans HQ5.out b2); clear b2))
    refine wp_region_held_drew (S := fun w' => Below w2.heap.size w2 w') (by kernel_rfl) ((below_drewN (Below.refl _ _) 1)) (fun hHeld => ?_)
    refine tkg 0 (.agg (B K)) rfl (yieldsIf_load_mid rfl 32 (.tmp 5) rfl b5 0 rfl (B K).toList _ (fun w hS => (HB52.out.grow hS).range) Tryz.underlying32 rfl HPL.out) hHeld ?_
    simp only [Act.put, zq1, zq2, zq4, zq5, zq6]
    refine tkp 1 v hHeld ?_
    simp only [Act.put, zq1, zq2, zq3, zq4, zq5, zq6]
    refine tkp 2 (.int .i64 h) hHeld ?_
    simp only [Act.put, zq1, zq2, zq3, zq4, zq5, zq6]
    refine wpAnyH_ready (rs := [3]) (by kernel_rfl) (by simp) ?_
    refine AllReadyH.cons rfl (fun KQ hK => ?_) AllReadyH.nil
    go_simp
    refine (HDP.out _ (grow_trans HQ2.out hHeld)).mono ?_
    rintro e z1 ⟨rfl, a1⟩
    refine hK.out _ _ (grow_trans hHeld a1) (fun hHeld => ?_)
    clear hK KQ
    refine wpAnyH_ready (rs := [4]) (by kernel_rfl) (by simp) ?_
    refine AllReadyH.cons rfl (fun KQ hK => ?_) AllReadyH.nil
    go_simp
    refine (HBT.out _).mono ?_
    rintro e z2 ⟨rfl, a2⟩
    refine hK.out _ _ (grow_trans hHeld a2) (fun hHeld => ?_)
    clear hK KQ
    refine tkp 5 (.bool false) hHeld ?_
    simp only [Act.put, zq1, zq2, zq3, zq4, zq5, zq6]
    refine wpAnyH_done (by kernel_rfl) ?_ _
    go_wp2
    go_ret2
    exact ⟨rfl, grow_trans HQ2.out hHeld⟩
  · rw [if_pos rfl, if_pos rfl]
    go_enter Tryz.func91, Tryz.ntmps91
    go_wp2_with (first
      | ((with_reducible refine at_bxd 5 ?_); refine wpList_bx _ rfl _ _ rfl _ rfl ?_; intro w1 b5 hg5 hl5 B5 q5; have HB5 := hidden B5; have HQ5 := hidden q5; clear hg5 hl5 B5 q5)
      | (go_at_call 25; refine (HSD.out _ HQ5.out).mono ?_; rintro e w2 ⟨rfl, b2⟩; have HB52 := hidden (HB5.out.grow b2); have HQ2 := hidden (grow_trans HQ5.out b2); clear b2))
    refine wp_region_held_drew (S := fun w' => Below w2.heap.size w2 w') (by kernel_rfl) ((below_drewN (Below.refl _ _) 1)) (fun hHeld => ?_)
    refine tkg 0 (.agg (B K)) rfl (yieldsIf_load_mid rfl 32 (.tmp 5) rfl b5 0 rfl (B K).toList _ (fun w hS => (HB52.out.grow hS).range) Tryz.underlying32 rfl HPL.out) hHeld ?_
    simp only [Act.put, zq1, zq2, zq4, zq5, zq6]
    refine tkp 1 v hHeld ?_
    simp only [Act.put, zq1, zq2, zq3, zq4, zq5, zq6]
    refine tkp 2 (.int .i64 h) hHeld ?_
    simp only [Act.put, zq1, zq2, zq3, zq4, zq5, zq6]
    refine wpAnyH_ready (rs := [3]) (by kernel_rfl) (by simp) ?_
    refine AllReadyH.cons rfl (fun KQ hK => ?_) AllReadyH.nil
    go_simp
    refine (HDP.out _ (grow_trans HQ2.out hHeld)).mono ?_
    rintro e z1 ⟨rfl, a1⟩
    refine hK.out _ _ (grow_trans hHeld a1) (fun hHeld => ?_)
    clear hK KQ
    refine wpAnyH_ready (rs := [4]) (by kernel_rfl) (by simp) ?_
    refine AllReadyH.cons rfl (fun KQ hK => ?_) AllReadyH.nil
    go_simp
    refine (HBT.out _).mono ?_
    rintro e z2 ⟨rfl, a2⟩
    refine hK.out _ _ (grow_trans hHeld a2) (fun hHeld => ?_)
    clear hK KQ
    refine tkp 5 (.bool true) hHeld ?_
    simp only [Act.put, zq1, zq2, zq3, zq4, zq5, zq6]
    refine wpAnyH_done (by kernel_rfl) ?_ _
    go_wp2
    go_ret2
    exact ⟨rfl, grow_trans HQ2.out hHeld⟩

def HdPost (hs : List Nat) (fin : Int) (w : World) (e : Ending) (w' : World) : Prop :=
  ∃ a c, e = .returned (.tuple #[.slice a hs.length c, .int .i64 fin, .int .i64 0]) ∧ w'.ownsRow w.heap.size 3 1 (.slice a hs.length c) hs.length (nats hs) ∧ Below w.heap.size w w'

def sLen : Value → Nat
  | .slice _ n _ => n
  | _ => 0

theorem cat_is {cs : List (Nat × Ce)} {h : Nat} (h1 : 1 ≤ h) : cat cs (h : Int) = ce cs (h - 1) := by
  rw [cat_nat, sdC, if_neg (by omega)]

set_option maxHeartbeats 4000000 in
theorem handles_any {w : World} {v : Value} {cs : List (Nat × Ce)} {pend : List Nat} (V : Vw w v true (cot cs) (cat cs)) (W : Wf cs pend) (h : Nat) (T : Tre) (hT : IsT cs h T) (K : List Int) (hK : Key K) (he : vRt true (cot cs h) (cat cs h) h = 0) : Calls Tryz.prog 66 #[v, .int .i64 (h : Int), .agg (B K)] w (HdPost (T.hs K h) (T.fin K h) w) := by
  have HR : Hid (∀ w', Below w.heap.size w w' → Calls Tryz.prog 23 #[v, .int .i64 (h : Int)] w' fun e w'' => e = .returned (.int .i64 0) ∧ Below w'.heap.size w' w'') := fun w' hb => by
    have := root_any (V.grow hb) (h : Int)
    rwa [he] at this
  have HPS : Hid ((Tryz.prog.info? 32).map (·.size) = some (B K).size) := by show _ = _; rw [B_size, hK.1]; exact size_path
  have HV := hidden V
  have HW := hidden W
  have HK := hidden hK
  have HT := hidden hT
  have HN : Hid ((T.hs K h).length ≤ 256) := by
    show _ ≤ _
    rw [Tre.hs_oth]
    by_cases k : (sdC cs h).kind = 2
    · have := (way_tree W K T h (sdC cs h).dp hT (fun _ => rfl) (by
        match T, hT with
        | .emp, e => exact absurd k (by rw [show h = 0 from e]; show ¬ zc.kind = 2; decide)
        | .lf _ _, ⟨h1, _, h3, _⟩ => rw [sdC, if_neg (by omega)] at k; omega
        | .nd d hl hr L R, hT => 
          have := (nd_ok W hT).dp
          obtain ⟨h1, _, _, h4, _⟩ := hT
          rw [sdC, if_neg (by omega), h4]
          omega)).2.2
      omega
    · have := (way_tree W K T h 0 hT (fun q => absurd q k) (by omega)).2.2
      omega
  have HPost : Hid (∀ a c w', w'.ownsRow w.heap.size 3 1 (.slice a (T.hs K h).length c) (T.hs K h).length (nats (T.hs K h)) → Below w.heap.size w w' → HdPost (T.hs K h) (T.fin K h) w (.returned (.tuple #[.slice a (T.hs K h).length c, .int .i64 (T.fin K h : Int), .int .i64 0])) w') := fun a c w' h1 h2 => ⟨a, c, rfl, h1, h2⟩
  obtain ⟨hh, hhe⟩ : ∃ y : Int, y = (h : Int) := ⟨_, rfl⟩
  rw [← hhe] at HR ⊢
  have HHE := hidden hhe
  clear V W hK hT he hhe
  generalize HE : HdPost (T.hs K h) (T.fin K h) w = P at HPost ⊢
  go_enter Tryz.func66, Tryz.ntmps66
  go_wp2_with (first
    | ((with_reducible refine at_bxd 5 ?_); refine wpList_bx _ rfl _ _ rfl _ rfl ?_; intro w1 b5 hg5 hl5 B5 q5; have HB5 := hidden B5; have HQ5 := hidden q5; have HG5 := hidden hg5; clear hg5 hl5 B5 q5)
    | (go_at_call 23; refine (HR.out _ HQ5.out).mono ?_; rintro e w2 ⟨rfl, b2⟩; have HB52 := hidden (HB5.out.grow b2); have HQ2 := hidden (grow_trans HQ5.out b2); clear b2))
  clear HR HB5 HQ5 HG5
  go_loopw [6, 7] (fun wv ev wr => ∃ (pre : List Nat) (x : Nat) (U : Tre) (a : Option Addr) (n c : Nat), wv = .slice a n c ∧ ev = .int .i64 (x : Int) ∧ Hid (n = pre.length) ∧ Hid (wr.ownsRow w2.heap.size 3 1 (.slice a n c) n (nats pre)) ∧ Hid (IsT cs x U ∧ pre ++ U.hs K x = T.hs K h ∧ U.fin K x = T.fin K h) ∧ Hid (Below w2.heap.size w2 wr)) (fun wv _ _ => 300 - sLen wv)
  case atStart => exact ⟨[], h, T, none, 0, 0, rfl, by rw [HHE.out], rfl, World.ownsRow_nil _ _ _ _, ⟨HT.out, rfl, rfl⟩, Below.refl _ _⟩
  case round =>
    clear HT HHE
    obtain ⟨pre, x, U, a, n, c, rfl, rfl, hn, hO, hU, hB⟩ := hrel
    have HVR := hidden (HV.out.grow (grow_trans HQ2.out hB.out))
    have hlen : n + (U.hs K x).length = (T.hs K h).length := by
      have := congrArg List.length hU.out.2.1
      rw [List.length_append] at this
      rw [hn.out]
      exact this
    have h256 := HN.out
    have HKD : Hid (Calls Tryz.prog 24 #[v, .int .i64 (x : Int)] wr fun e w' => e = .returned (.int .u8 (cat cs (x : Int)).kind) ∧ Below wr.heap.size wr w') := kind_any HVR.out (x : Int)
    have HFin : Hid (U.hs K x = [] → U.fin K x = x → ∀ w', Below wr.heap.size wr w' → P (.returned (.tuple #[.slice a n c, .int .i64 (x : Int), .int .i64 0])) w') := fun e1 e2 w' hb => by
      have q1 := hU.out.2.1
      rw [e1, List.append_nil] at q1
      have q2 := hU.out.2.2
      rw [e2] at q2
      have q3 := hn.out
      have hO' := owR_grow (owR_base hO.out HQ2.out.size) hb
      rw [q3, q1] at hO'
      rw [q3, q1, q2]
      exact HPost.out a c w' hO' (grow_trans (grow_trans HQ2.out hB.out) hb)
    cases U with
    | emp =>
      have hx : x = 0 := hU.out.1
      have HKZ : Hid ((cat cs (x : Int)).kind = 0) := by rw [hx]; rfl
      rw [HKZ.out] at HKD
      have HF := hidden (HFin.out rfl rfl)
      generalize (x : Int) = y at HKD HF ⊢
      clear HFin HKZ hx hU hlen h256 HVR
      go_wp2_with (first
        | (go_at_call 24; refine HKD.out.mono ?_; rintro e w3 ⟨rfl, b3⟩; have HB3 := hidden b3; clear b3))
      go_ret3
      exact HF.out _ HB3.out
    | lf k b =>
      obtain ⟨h1, h2, h3, h4, h5⟩ := hU.out.1
      have HKZ : Hid ((cat cs (x : Int)).kind = 1) := by rw [cat_is h1]; exact h3
      rw [HKZ.out] at HKD
      have HF := hidden (HFin.out rfl rfl)
      generalize (x : Int) = y at HKD HF ⊢
      clear HFin HKZ hU hlen h256 HVR h1 h2 h3 h4 h5
      go_wp2_with (first
        | (go_at_call 24; refine HKD.out.mono ?_; rintro e w3 ⟨rfl, b3⟩; have HB3 := hidden b3; clear b3))
      go_ret3
      exact HF.out _ HB3.out
    | nd d hl hr L R =>
      have hno := nd_ok HW.out hU.out.1
      obtain ⟨h1, h2, h3, h4, h5, h6, h7, h8⟩ := hU.out.1
      have hca := cat_is (cs := cs) h1
      rw [show (cat cs (x : Int)).kind = 2 by rw [hca]; exact h3] at HKD
      have HFK : Hid (∀ w', Below w.heap.size w w' → Calls Tryz.prog 91 #[v, .int .i64 (x : Int), .agg (B K)] w' fun e w'' => e = .returned (.tuple #[.int .i64 ((if kb K d = 1 then hr else hl : Nat) : Int), .int .i64 ((if kb K d = 1 then hl else hr : Nat) : Int)]) ∧ Below w'.heap.size w' w'') := fun w' hb => by
        have := fork_any (HV.out.grow hb) (x : Int) K HK.out (by rw [hca]; exact h3) (by rw [hca, h4]; exact hno.dp)
        rw [hca, h4, h5, h6] at this
        exact this
      have hcut : (Tre.nd d hl hr L R).hs K x = x :: (if kb K d = 1 then R.hs K hr else L.hs K hl) := rfl
      have hfi : (Tre.nd d hl hr L R).fin K x = (if kb K d = 1 then R.fin K hr else L.fin K hl) := rfl
      have HNX : Hid (∃ U', IsT cs (if kb K d = 1 then hr else hl) U' ∧ (pre ++ [x]) ++ U'.hs K (if kb K d = 1 then hr else hl) = T.hs K h ∧ U'.fin K (if kb K d = 1 then hr else hl) = T.fin K h) := by
        have q1 := hU.out.2.1
        have q2 := hU.out.2.2
        rw [hcut] at q1
        rw [hfi] at q2
        show ∃ _, _
        by_cases q : kb K d = 1
        · rw [if_pos q] at q1 q2 ⊢
          exact ⟨R, h8, by rw [List.append_assoc]; exact q1, q2⟩
        · rw [if_neg q] at q1 q2 ⊢
          exact ⟨L, h7, by rw [List.append_assoc]; exact q1, q2⟩
      have hn256 : n + 1 ≤ 256 := by
        rw [hcut, List.length_cons] at hlen
        omega
      generalize (if kb K d = 1 then hr else hl : Nat) = m1 at HFK HNX
      generalize (if kb K d = 1 then hl else hr : Nat) = m2 at HFK
      obtain ⟨y, hy⟩ : ∃ y : Int, y = (x : Int) := ⟨_, rfl⟩
      rw [← hy] at HKD HFK
      rw [← hy]
      have HY := hidden hy
      have H256 := hidden hn256
      clear HFin hU hlen h256 HVR h1 h2 h3 h4 h5 h6 h7 h8 hca hcut hfi hno hy hn256
      go_wp2_with (first
        | (go_at_call 24; refine HKD.out.mono ?_; rintro e w3 ⟨rfl, b3⟩; have HB3 := hidden b3; have HO3 := hidden ((owR_grow (owR_grow hO.out b3) (grow_alloc w3 (.cells #[.int .i64 y] 3)))); clear b3)
        | (at_builtin; refine wpList_appB _ rfl _ _ _ rfl w2.heap.size 3 1 8 Tryz.underlying86 info_nat (by omega) _ n (nats pre) rfl HO3.out w3.heap.size [Value.int .i64 y] rfl (Blk.new _ _ _) rfl (by intro u hu; simp at hu; subst hu; rfl) (by have := H256.out; simp only [maxLen]; omega) (by have := H256.out; omega) (Nat.le_trans hB.out.size (Nat.le_trans HB3.out.size (by simp))) ?_; intro a4 c4 w4 o4 g4; have HO4 := hidden o4; have HB4 := hidden (owR_below (grow_trans (grow_trans hB.out HB3.out) (grow_alloc w3 (.cells #[.int .i64 y] 3))) HO3.out (Nat.le_refl _) g4); clear o4 g4)
        | ((with_reducible refine at_ldd 30 5 ?_); refine wpList_ld _ rfl _ _ rfl b5 _ rfl (HB52.out.grow HB4.out) _ _ Tryz.underlying32 HPS.out ?_)
        | (go_at_call 91; refine (HFK.out _ (grow_trans HQ2.out HB4.out)).mono ?_; rintro e w5 ⟨rfl, b5'⟩; have HB5 := hidden b5'; clear b5'))
      obtain ⟨U', hU1, hU2, hU3⟩ := HNX.out
      have ho5 := owR_grow HO4.out HB5.out
      rw [HY.out, ← nats_snoc] at ho5
      exact ⟨⟨pre ++ [x], m1, U', a4, n + 1, c4, rfl, rfl, by rw [List.length_append, List.length_singleton, ← hn.out]; exact rfl, ho5, ⟨hU1, hU2, hU3⟩, grow_trans HB4.out HB5.out⟩, by have := H256.out; simp only [sLen]; omega⟩

end Go.Proofs.YtnnmfgnommbmkaaGreatDoor

namespace Go.Proofs.YtnnmfgnommbmkaaGreatDoor
set_option maxRecDepth 20000
open Go.RowKit

structure HsAt1 (cs : List (Nat × Ce)) (K : List Int) (hs : List Nat) (fin : Nat) (oth : List Nat) (d k x : Nat) : Prop where
  at_ : hs[k]? = some x
  pos : 1 ≤ x
  occ : 0 < cc cs (x - 1)
  kind : (ce cs (x - 1)).kind = 2
  dp : (ce cs (x - 1)).dp = d + k
  lt : d + k < 256
  oth_ : oth[k]? = some (if kb K (d + k) = 1 then (ce cs (x - 1)).l else (ce cs (x - 1)).r)
  next : (hs ++ [fin])[k + 1]? = some (if kb K (d + k) = 1 then (ce cs (x - 1)).r else (ce cs (x - 1)).l)

theorem hs_head (K : List Int) : ∀ (T : Tre) (h : Nat), (T.hs K h ++ [T.fin K h])[0]? = some h
  | .emp, _ => rfl
  | .lf _ _, _ => rfl
  | .nd _ _ _ _ _, _ => rfl

theorem hs_at {cs : List (Nat × Ce)} {pend : List Nat} (w : Wf cs pend) (K : List Int) : ∀ (T : Tre) (h d : Nat), IsT cs h T → ((sdC cs h).kind = 2 → (sdC cs h).dp = d) → ∀ k, k < (T.hs K h).length → ∃ x, HsAt1 cs K (T.hs K h) (T.fin K h) (T.oth K) d k x
  | .emp, h, d, _, _, k, hk => by simp [Tre.hs] at hk
  | .lf _ _, h, d, _, _, k, hk => by simp [Tre.hs] at hk
  | .nd d hl hr L R, h, d', hT, hd, k, hk => by
    have n := nd_ok w hT
    obtain ⟨h1, h2, h3, h4, h5, h6, h7, h8⟩ := hT
    have es : sdC cs h = ce cs (h - 1) := if_neg (by omega)
    obtain rfl : d = d' := by
      rw [es] at hd
      rw [← h4]
      exact hd h3
    have hdp := n.dp
    cases k with
    | zero =>
      refine ⟨h, rfl, h1, h2, h3, h4, by omega, ?_, ?_⟩
      · rw [Nat.add_zero, h5, h6]
        simp only [Tre.oth]
        split <;> rfl
      · simp only [Nat.add_zero, h5, h6, Tre.hs, Tre.fin]
        by_cases q : kb K d = 1
        · rw [if_pos q, if_pos q, if_pos q, List.cons_append, List.getElem?_cons_succ]
          exact hs_head K R hr
        · rw [if_neg q, if_neg q, if_neg q, List.cons_append, List.getElem?_cons_succ]
          exact hs_head K L hl
    | succ k =>
      by_cases q : kb K d = 1
      · have e1 : Tre.hs K h (.nd d hl hr L R) = h :: R.hs K hr := by simp [Tre.hs, q]
        have e2 : Tre.fin K h (.nd d hl hr L R) = R.fin K hr := by simp [Tre.fin, q]
        have e3 : Tre.oth K (.nd d hl hr L R) = hl :: R.oth K := by simp [Tre.oth, q]
        rw [e1, List.length_cons] at hk
        obtain ⟨x, b1, b2, b3, b4, b5, b6, b7, b8⟩ := hs_at w K R hr (d + 1) h8 n.kr k (by omega)
        have e4 : d + 1 + k = d + (k + 1) := by omega
        rw [e4] at b5 b6 b7 b8
        rw [e1, e2, e3]
        exact ⟨x, by rw [List.getElem?_cons_succ]; exact b1, b2, b3, b4, b5, b6, by rw [List.getElem?_cons_succ]; exact b7, by rw [List.cons_append, List.getElem?_cons_succ]; exact b8⟩
      · have e1 : Tre.hs K h (.nd d hl hr L R) = h :: L.hs K hl := by simp [Tre.hs, q]
        have e2 : Tre.fin K h (.nd d hl hr L R) = L.fin K hl := by simp [Tre.fin, q]
        have e3 : Tre.oth K (.nd d hl hr L R) = hr :: L.oth K := by simp [Tre.oth, q]
        rw [e1, List.length_cons] at hk
        obtain ⟨x, b1, b2, b3, b4, b5, b6, b7, b8⟩ := hs_at w K L hl (d + 1) h7 n.kl k (by omega)
        have e4 : d + 1 + k = d + (k + 1) := by omega
        rw [e4] at b5 b6 b7 b8
        rw [e1, e2, e3]
        exact ⟨x, by rw [List.getElem?_cons_succ]; exact b1, b2, b3, b4, b5, b6, by rw [List.getElem?_cons_succ]; exact b7, by rw [List.cons_append, List.getElem?_cons_succ]; exact b8⟩

theorem root_dp {cs : List (Nat × Ce)} {h : Nat} {T : Tre} (hT : IsT cs h T) (he : vRt true (cot cs h) (cat cs h) h = 0) : (sdC cs h).kind = 2 → (sdC cs h).dp = 0 := fun k => by
  rw [← cat_nat] at k ⊢
  have h0 : ¬ (h : Int) = 0 := fun e => by
    have : h = 0 := by omega
    subst this
    exact absurd k (by show ¬ zc.kind = 2; decide)
  have hc : ¬ cot cs (h : Int) = 0 := by
    match T, hT with
    | .emp, e => exact absurd (show ((h : Nat) : Int) = 0 by rw [show h = 0 from e]; rfl) h0
    | .lf _ _, ⟨h1, h2, _⟩ => rw [cot, if_pos (by omega), show ((h : Int) - 1).toNat = h - 1 by omega]; omega
    | .nd _ _ _ _ _, ⟨h1, h2, _⟩ => rw [cot, if_pos (by omega), show ((h : Int) - 1).toNat = h - 1 by omega]; omega
  unfold vRt at he
  rw [if_pos rfl, if_neg h0, if_neg hc] at he
  by_cases q : 0 < vDp true (cat cs (h : Int))
  · rw [if_pos q] at he
    omega
  · unfold vDp at q
    rw [if_pos rfl, if_pos k] at q
    omega

def fnd (l : List Ent) (K : List Int) : List Int × Bool := match l with
  | [e] => if e.1 = K then (e.2, true) else ([], false)
  | _ => ([], false)
def FdPost (r : List Int × Bool) (w : World) (e : Ending) (w' : World) : Prop :=
  ∃ v' sp, e = .returned (.tuple #[v', .bool r.2, .int .i64 0]) ∧ Own w.heap.size w' v' r.1 sp ∧ Below w.heap.size w w'

set_option maxHeartbeats 2000000 in
theorem find_any {w : World} {v : Value} {cs : List (Nat × Ce)} {pend : List Nat} (V : Vw w v true (cot cs) (cat cs)) (W : Wf cs pend) (h : Nat) (T : Tre) (hT : IsT cs h T) (K : List Int) (hK : Key K) (he : vRt true (cot cs h) (cat cs h) h = 0) : Calls Tryz.prog 64 #[v, .int .i64 (h : Int), .agg (B K)] w (FdPost (fnd (T.efin K) K) w) := by
  have HHD : Hid (∀ w', Below w.heap.size w w' → Calls Tryz.prog 66 #[v, .int .i64 (h : Int), .agg (B K)] w' (HdPost (T.hs K h) (T.fin K h) w')) := fun w' hb => handles_any (V.grow hb) W h T hT K hK he
  have HPL := hidden (pth_ln K hK.1)
  have HPS : Hid ((Tryz.prog.info? 32).map (·.size) = some (B K).size) := by show _ = _; rw [B_size, hK.1]; exact size_path
  have hfin := fin_is K T h hT
  have HV := hidden V
  obtain ⟨hs, hhs⟩ : ∃ l, l = T.hs K h := ⟨_, rfl⟩
  rw [← hhs] at HHD
  obtain ⟨x, hx⟩ : ∃ x, x = T.fin K h := ⟨_, rfl⟩
  rw [← hx] at HHD hfin
  obtain ⟨hh, hhe⟩ : ∃ y : Int, y = (h : Int) := ⟨_, rfl⟩
  rw [← hhe] at HHD
  rw [← hhe]
  have HKL := hidden hK.1
  clear V W hT he hhs hx hK
  generalize HFE : (x : Int) = y at HHD
  have HFY := hidden HFE
  clear HFE
  rcases hfin with ⟨hx0, hf⟩ | ⟨k, b, hf, h1, h2, h3, h4, h5⟩
  · rw [hf]
    have HKD : Hid (∀ w', Below w.heap.size w w' → Calls Tryz.prog 24 #[v, .int .i64 y] w' fun e w'' => e = .returned (.int .u8 0) ∧ Below w'.heap.size w' w'') := fun w' hb => by
      have := kind_any (HV.out.grow hb) y
      rwa [show (cat cs y).kind = 0 by rw [← HFY.out, hx0]; rfl] at this
    have HPost : Hid (∀ w', Below w.heap.size w w' → FdPost (fnd [] K) w (.returned (.tuple #[.slice none 0 0, .bool false, .int .i64 0])) w') := fun w' hb => ⟨_, [], rfl, Own.nil _ _, hb⟩
    generalize FdPost (fnd [] K) w = P at HPost ⊢
    clear hf HV hhe hx0 HFY
    go_enter Tryz.func64, Tryz.ntmps64
    go_wp2_with (first
      | ((with_reducible refine at_bxd 5 ?_); refine wpList_bx _ rfl _ _ rfl _ rfl ?_; intro w1 b5 hg5 hl5 B5 q5; have HB5 := hidden B5; have HQ5 := hidden q5; clear hg5 hl5 B5 q5)
      | ((with_reducible refine at_ldd 14 5 ?_); refine wpList_ld _ rfl _ _ rfl b5 _ rfl HB5.out _ _ Tryz.underlying32 HPS.out ?_)
      | (go_at_call 66; refine (HHD.out _ HQ5.out).mono ?_; rintro e w2 ⟨a2, c2, rfl, o2, b2⟩; have HB52 := hidden (HB5.out.grow b2); have HQ2 := hidden (grow_trans HQ5.out b2); clear b2 o2))
    refine wp_region_held_drew (S := fun w' => Below w2.heap.size w2 w') (by kernel_rfl) ((below_drewN (Below.refl _ _) 1)) (fun hHeld => ?_)
    refine tkp 0 (.int .i64 0) hHeld ?_
    simp only [Act.put, zq1, zq2, zq4, zq5, zq6]
    refine tkp 1 (.bool false) hHeld ?_
    simp only [Act.put, zq1, zq2, zq3, zq4, zq5, zq6]
    refine tkp 2 (.bool false) hHeld ?_
    simp only [Act.put, zq1, zq2, zq3, zq4, zq5, zq6]
    refine tkp 3 v hHeld ?_
    simp only [Act.put, zq1, zq2, zq3, zq4, zq5, zq6]
    refine tkp 4 (.int .i64 y) hHeld ?_
    simp only [Act.put, zq1, zq2, zq3, zq4, zq5, zq6]
    refine wpAnyH_ready (rs := [5]) (by kernel_rfl) (by simp) ?_
    refine AllReadyH.cons rfl (fun KQ hK => ?_) AllReadyH.nil
    go_simp
    refine (HKD.out _ (grow_trans HQ2.out hHeld)).mono ?_
    rintro e z1 ⟨rfl, a1⟩
    refine hK.out _ _ (grow_trans hHeld a1) (fun hHeld => ?_)
    clear hK KQ
    refine tkp 6 (.bool true) hHeld ?_
    simp only [Act.put, zq1, zq2, zq3, zq4, zq5, zq6]
    refine tkp 7 (.bool true) hHeld ?_
    simp only [Act.put, zq1, zq2, zq3, zq4, zq5, zq6]
    refine tkp 8 (.bool true) hHeld ?_
    simp only [Act.put, zq1, zq2, zq3, zq4, zq5, zq6]
    refine tks 9 hHeld ?_
    simp only [Act.put, zq1, zq2, zq3, zq4, zq5, zq6]
    refine tks 10 hHeld ?_
    simp only [Act.put, zq1, zq2, zq3, zq4, zq5, zq6]
    refine tks 11 hHeld ?_
    simp only [Act.put, zq1, zq2, zq3, zq4, zq5, zq6]
    refine tks 12 hHeld ?_
    simp only [Act.put, zq1, zq2, zq3, zq4, zq5, zq6]
    refine tks 13 hHeld ?_
    simp only [Act.put, zq1, zq2, zq3, zq4, zq5, zq6]
    refine tkp 14 (.bool true) hHeld ?_
    simp only [Act.put, zq1, zq2, zq3, zq4, zq5, zq6]
    refine wpAnyH_done (by kernel_rfl) ?_ _
    go_wp2
    go_ret3
    exact HPost.out _ (grow_trans HQ2.out hHeld)
  · rw [hf]
    have hca : cat cs y = ce cs (x - 1) := by rw [← HFY.out]; exact cat_is h1
    have HKD : Hid (∀ w', Below w.heap.size w w' → Calls Tryz.prog 24 #[v, .int .i64 y] w' fun e w'' => e = .returned (.int .u8 1) ∧ Below w'.heap.size w' w'') := fun w' hb => by
      have := kind_any (HV.out.grow hb) y
      rwa [show (cat cs y).kind = 1 by rw [hca]; exact h3] at this
    have HKY : Hid (∀ w', Below w.heap.size w w' → Calls Tryz.prog 29 #[v, .int .i64 y] w' fun e w'' => e = .returned (.agg (B k)) ∧ Below w'.heap.size w' w'') := fun w' hb => by
      have := key_any (HV.out.grow hb) y
      rwa [show (cat cs y).key = k by rw [hca]; exact h4] at this
    have HVA : Hid (∀ w', Below w.heap.size w w' → Calls Tryz.prog 51 #[v, .int .i64 y] w' fun e w'' => ∃ v' sp, e = .returned v' ∧ Own w'.heap.size w'' v' b sp ∧ Below w'.heap.size w' w'') := fun w' hb => by
      have := valueS_any (HV.out.grow hb) y
      rwa [show (cat cs y).bs = b by rw [hca]; exact h5] at this
    have hkl : k.length = 32 := by have := (HV.out.ok y).hk.1; rwa [hca, h4] at this
    have hE := path_eq k K hkl HKL.out
    by_cases hq : k = K
    · have HPost : Hid (∀ w' v' sp, Own w.heap.size w' v' b sp → Below w.heap.size w w' → FdPost (fnd [(k, b)] K) w (.returned (.tuple #[v', .bool true, .int .i64 0])) w') := fun w' v' sp ho hb => ⟨v', sp, by simp [fnd, hq], by simpa [fnd, hq] using ho, hb⟩
      generalize FdPost (fnd [(k, b)] K) w = P at HPost ⊢
      simp only [hq, decide_true] at hE
      rw [hq] at HKY
      clear hf HV hhe HFY hca h1 h2 h3 h4 h5 hkl hq
      go_enter Tryz.func64, Tryz.ntmps64
      go_wp2_with (first
        | ((with_reducible refine at_bxd 5 ?_); refine wpList_bx _ rfl _ _ rfl _ rfl ?_; intro w1 b5 hg5 hl5 B5 q5; have HB5 := hidden B5; have HQ5 := hidden q5; clear hg5 hl5 B5 q5)
        | ((with_reducible refine at_ldd 14 5 ?_); refine wpList_ld _ rfl _ _ rfl b5 _ rfl HB5.out _ _ Tryz.underlying32 HPS.out ?_)
        | (go_at_call 66; refine (HHD.out _ HQ5.out).mono ?_; rintro e w2 ⟨a2, c2, rfl, o2, b2⟩; have HB52 := hidden (HB5.out.grow b2); have HQ2 := hidden (grow_trans HQ5.out b2); clear b2 o2))
      refine wp_region_held_drew (S := fun w' => Below w2.heap.size w2 w') (by kernel_rfl) ((below_drewN (Below.refl _ _) 1)) (fun hHeld => ?_)
      refine tkp 0 (.int .i64 0) hHeld ?_
      simp only [Act.put, zq1, zq2, zq4, zq5, zq6]
      refine tkp 1 (.bool false) hHeld ?_
      simp only [Act.put, zq1, zq2, zq3, zq4, zq5, zq6]
      refine tkp 2 (.bool false) hHeld ?_
      simp only [Act.put, zq1, zq2, zq3, zq4, zq5, zq6]
      refine tkp 3 v hHeld ?_
      simp only [Act.put, zq1, zq2, zq3, zq4, zq5, zq6]
      refine tkp 4 (.int .i64 y) hHeld ?_
      simp only [Act.put, zq1, zq2, zq3, zq4, zq5, zq6]
      refine wpAnyH_ready (rs := [5]) (by kernel_rfl) (by simp) ?_
      refine AllReadyH.cons rfl (fun KQ hK => ?_) AllReadyH.nil
      go_simp
      refine (HKD.out _ (grow_trans HQ2.out hHeld)).mono ?_
      rintro e z1 ⟨rfl, a1⟩
      refine hK.out _ _ (grow_trans hHeld a1) (fun hHeld => ?_)
      clear hK KQ
      refine tkp 6 (.bool false) hHeld ?_
      simp only [Act.put, zq1, zq2, zq3, zq4, zq5, zq6]
      refine tkp 7 (.bool false) hHeld ?_
      simp only [Act.put, zq1, zq2, zq3, zq4, zq5, zq6]
      refine tkp 8 (.bool false) hHeld ?_
      simp only [Act.put, zq1, zq2, zq3, zq4, zq5, zq6]
      refine tkp 9 v hHeld ?_
      simp only [Act.put, zq1, zq2, zq3, zq4, zq5, zq6]
      refine tkp 10 (.int .i64 y) hHeld ?_
      simp only [Act.put, zq1, zq2, zq3, zq4, zq5, zq6]
      refine tkg 12 (.agg (B K)) rfl (yieldsIf_load_mid rfl 32 (.tmp 5) rfl b5 0 rfl (B K).toList _ (fun w hS => (HB52.out.grow hS).range) Tryz.underlying32 rfl HPL.out) hHeld ?_
      simp only [Act.put, zq1, zq2, zq3, zq4, zq5, zq6]
      refine wpAnyH_ready (rs := [11]) (by kernel_rfl) (by simp) ?_
      refine AllReadyH.cons rfl (fun KQ hK => ?_) AllReadyH.nil
      go_simp
      refine (HKY.out _ (grow_trans HQ2.out hHeld)).mono ?_
      rintro e z2 ⟨rfl, a2⟩
      refine hK.out _ _ (grow_trans hHeld a2) (fun hHeld => ?_)
      clear hK KQ
      refine tkp 13 (.bool false) hHeld ?_
      simp only [Act.put, zq1, zq2, zq3, zq4, zq5, zq6]
      refine tkp 14 (.bool false) hHeld ?_
      simp only [Act.put, zq1, zq2, zq3, zq4, zq5, zq6]
      refine wpAnyH_done (by kernel_rfl) ?_ _
      have HH := hidden hHeld
      clear hHeld
      go_wp2_with (go_at_call 51; refine (HVA.out _ (grow_trans HQ2.out HH.out)).mono ?_; rintro e w7 ⟨v7, sp7, rfl, o7, b7⟩)
      go_ret3
      exact HPost.out _ _ sp7 (o7.mono (grow_trans HQ2.out HH.out).size) (grow_trans (grow_trans HQ2.out HH.out) b7)
    · have HPost : Hid (∀ w', Below w.heap.size w w' → FdPost (fnd [(k, b)] K) w (.returned (.tuple #[.slice none 0 0, .bool false, .int .i64 0])) w') := fun w' hb => ⟨.slice none 0 0, [], by simp [fnd, hq], by simp only [fnd, hq, if_false]; exact Own.nil _ _, hb⟩
      generalize FdPost (fnd [(k, b)] K) w = P at HPost ⊢
      simp only [hq, decide_false] at hE
      clear hf HV hhe HFY hca h1 h2 h3 h4 h5 hkl hq HVA
      go_enter Tryz.func64, Tryz.ntmps64
      go_wp2_with (first
        | ((with_reducible refine at_bxd 5 ?_); refine wpList_bx _ rfl _ _ rfl _ rfl ?_; intro w1 b5 hg5 hl5 B5 q5; have HB5 := hidden B5; have HQ5 := hidden q5; clear hg5 hl5 B5 q5)
        | ((with_reducible refine at_ldd 14 5 ?_); refine wpList_ld _ rfl _ _ rfl b5 _ rfl HB5.out _ _ Tryz.underlying32 HPS.out ?_)
        | (go_at_call 66; refine (HHD.out _ HQ5.out).mono ?_; rintro e w2 ⟨a2, c2, rfl, o2, b2⟩; have HB52 := hidden (HB5.out.grow b2); have HQ2 := hidden (grow_trans HQ5.out b2); clear b2 o2))
      refine wp_region_held_drew (S := fun w' => Below w2.heap.size w2 w') (by kernel_rfl) ((below_drewN (Below.refl _ _) 1)) (fun hHeld => ?_)
      refine tkp 0 (.int .i64 0) hHeld ?_
      simp only [Act.put, zq1, zq2, zq4, zq5, zq6]
      refine tkp 1 (.bool false) hHeld ?_
      simp only [Act.put, zq1, zq2, zq3, zq4, zq5, zq6]
      refine tkp 2 (.bool false) hHeld ?_
      simp only [Act.put, zq1, zq2, zq3, zq4, zq5, zq6]
      refine tkp 3 v hHeld ?_
      simp only [Act.put, zq1, zq2, zq3, zq4, zq5, zq6]
      refine tkp 4 (.int .i64 y) hHeld ?_
      simp only [Act.put, zq1, zq2, zq3, zq4, zq5, zq6]
      refine wpAnyH_ready (rs := [5]) (by kernel_rfl) (by simp) ?_
      refine AllReadyH.cons rfl (fun KQ hK => ?_) AllReadyH.nil
      go_simp
      refine (HKD.out _ (grow_trans HQ2.out hHeld)).mono ?_
      rintro e z1 ⟨rfl, a1⟩
      refine hK.out _ _ (grow_trans hHeld a1) (fun hHeld => ?_)
      clear hK KQ
      refine tkp 6 (.bool false) hHeld ?_
      simp only [Act.put, zq1, zq2, zq3, zq4, zq5, zq6]
      refine tkp 7 (.bool false) hHeld ?_
      simp only [Act.put, zq1, zq2, zq3, zq4, zq5, zq6]
      refine tkp 8 (.bool false) hHeld ?_
      simp only [Act.put, zq1, zq2, zq3, zq4, zq5, zq6]
      refine tkp 9 v hHeld ?_
      simp only [Act.put, zq1, zq2, zq3, zq4, zq5, zq6]
      refine tkp 10 (.int .i64 y) hHeld ?_
      simp only [Act.put, zq1, zq2, zq3, zq4, zq5, zq6]
      refine tkg 12 (.agg (B K)) rfl (yieldsIf_load_mid rfl 32 (.tmp 5) rfl b5 0 rfl (B K).toList _ (fun w hS => (HB52.out.grow hS).range) Tryz.underlying32 rfl HPL.out) hHeld ?_
      simp only [Act.put, zq1, zq2, zq3, zq4, zq5, zq6]
      refine wpAnyH_ready (rs := [11]) (by kernel_rfl) (by simp) ?_
      refine AllReadyH.cons rfl (fun KQ hK => ?_) AllReadyH.nil
      go_simp
      refine (HKY.out _ (grow_trans HQ2.out hHeld)).mono ?_
      rintro e z2 ⟨rfl, a2⟩
      refine hK.out _ _ (grow_trans hHeld a2) (fun hHeld => ?_)
      clear hK KQ
      refine tkp 13 (.bool true) hHeld ?_
      simp only [Act.put, zq1, zq2, zq3, zq4, zq5, zq6]
      refine tkp 14 (.bool true) hHeld ?_
      simp only [Act.put, zq1, zq2, zq3, zq4, zq5, zq6]
      refine wpAnyH_done (by kernel_rfl) ?_ _
      go_wp2
      go_ret3
      exact HPost.out _ (grow_trans HQ2.out hHeld)

theorem mea_step {m k : Nat} (h : (k : Int) < (m : Int)) : m - (k + 1) < m - k := by omega

end Go.Proofs.YtnnmfgnommbmkaaGreatDoor

namespace Go.Proofs.YtnnmfgnommbmkaaGreatDoor
set_option maxRecDepth 20000
open Go.RowKit

set_option maxHeartbeats 1000000 in
theorem count13_any {w : World} {v : Value} {mk : Bool} {ct : Int → Nat} {ca : Int → Ce} (V : Vw w v mk ct ca) (h : Int) (he : vRt mk (ct h) (ca h) h = 0) : Calls Tryz.prog 16 #[v, .int .i64 h] w fun e w' => e = .returned (.tuple #[.int .i64 ((ca h).sz : Int), .int .i64 0]) ∧ Below w.heap.size w w' := by
  have HRT := hidden (root_any V h)
  rw [he] at HRT
  have HSZ : Hid (∀ w', Below w.heap.size w w' → Calls Tryz.prog 28 #[v, .int .i64 h] w' fun e w'' => e = .returned (.int .i64 ((ca h).sz : Int)) ∧ Below w'.heap.size w' w'') := fun w' hb => size_any (V.grow hb) h
  clear V he
  go_enter Tryz.func16, Tryz.ntmps16
  go_wp2_with (first
    | (go_at_call 23; refine HRT.out.mono ?_; rintro e w2 ⟨rfl, b2⟩; have HQ2 := hidden b2; clear b2)
    | (go_at_call 28; refine (HSZ.out _ HQ2.out).mono ?_; rintro e w3 ⟨rfl, b3⟩; have HQ3 := hidden (grow_trans HQ2.out b3); clear b3))
  go_ret2
  exact ⟨rfl, HQ3.out⟩

theorem num_fun (cs : List (Nat × Ce)) : ∃ mea : Value → Nat, ∀ (q : Nat) (U : Tre), IsT cs q U → mea (.int .i64 (q : Int)) = U.num := by
  have h : ∀ v : Value, ∃ m : Nat, ∀ (q : Nat) (U : Tre), v = .int .i64 (q : Int) → IsT cs q U → m = U.num := fun v => by
    by_cases e : ∃ (q : Nat) (U : Tre), v = .int .i64 (q : Int) ∧ IsT cs q U
    · obtain ⟨q, U, h1, h2⟩ := e
      refine ⟨U.num, fun q' U' k1 k2 => ?_⟩
      rw [h1] at k1
      injection k1 with _ k1
      obtain rfl : q = q' := by omega
      rw [h2.one k2]
    · exact ⟨0, fun q U k1 k2 => absurd ⟨q, U, k1, k2⟩ e⟩
  exact ⟨fun v => Classical.choose (h v), fun q U hU => Classical.choose_spec (h (.int .i64 (q : Int))) q U rfl hU⟩

set_option maxHeartbeats 4000000 in
theorem rank_any {w : World} {v : Value} {cs : List (Nat × Ce)} {pend : List Nat} (V : Vw w v true (cot cs) (cat cs)) (W : Wf cs pend) (h : Nat) (T : Tre) (hT : IsT cs h T) (K : List Int) (hK : Key K) (he : vRt true (cot cs h) (cat cs h) h = 0) (h6 : T.ents.length ≤ 1000000) : Calls Tryz.prog 10 #[v, .int .i64 (h : Int), .agg (B K)] w fun e w' => e = .returned (.tuple #[.int .i64 (T.rk K : Int), .int .i64 0]) ∧ Below w.heap.size w w' := by
  have HRT : Hid (∀ w', Below w.heap.size w w' → Calls Tryz.prog 23 #[v, .int .i64 (h : Int)] w' fun e w'' => e = .returned (.int .i64 0) ∧ Below w'.heap.size w' w'') := fun w' hb => by
    have := root_any (V.grow hb) (h : Int)
    rwa [he] at this
  have HPL := hidden (pth_ln K hK.1)
  have HV := hidden V
  have HW := hidden W
  have HK := hidden hK
  have HT := hidden hT
  obtain ⟨mea, hmea⟩ := num_fun cs
  have HME := hidden hmea
  obtain ⟨hh, hhe⟩ : ∃ y : Int, y = (h : Int) := ⟨_, rfl⟩
  rw [← hhe] at HRT
  rw [← hhe]
  have HHE := hidden hhe
  have H6 := hidden h6
  clear V W hT he hK hmea hhe h6
  go_enter Tryz.func10, Tryz.ntmps10
  go_wp2_with (first
    | ((with_reducible refine at_bxd 5 ?_); refine wpList_bx _ rfl _ _ rfl _ rfl ?_; intro w0 b5 hg5 hl5 B5 q5; have HB5 := hidden B5; have HQ5 := hidden q5; clear hg5 hl5 B5 q5)
    | (go_at_call 23; refine (HRT.out _ HQ5.out).mono ?_; rintro e w1 ⟨rfl, b1⟩; have HB51 := hidden (HB5.out.grow b1); have HQ1 := hidden (grow_trans HQ5.out b1); clear b1))
  go_loopw [9, 10] (fun av hv wr => ∃ (a q : Nat) (U : Tre), av = .int .i64 (a : Int) ∧ hv = .int .i64 (q : Int) ∧ Hid (IsT cs q U) ∧ Hid (a + U.rk K = T.rk K ∧ a + U.ents.length ≤ T.ents.length) ∧ Hid (Below w1.heap.size w1 wr)) (fun _ hv _ => mea hv)
  case atStart => exact ⟨0, h, T, rfl, by rw [HHE.out], HT, ⟨by omega, by omega⟩, Below.refl _ _⟩
  case round =>
    clear HRT HQ5 HB5 HT HHE
    obtain ⟨a, q, U, rfl, rfl, hU, hR, hB⟩ := hrel
    have HM0 := hidden (HME.out q U hU.out)
    have HKD0 : Hid (∀ w', Below w.heap.size w w' → Calls Tryz.prog 24 #[v, .int .i64 (q : Int)] w' fun e w'' => e = .returned (.int .u8 (sdC cs q).kind) ∧ Below w'.heap.size w' w'') := fun w' hb => by
      have := kind_any (HV.out.grow hb) (q : Int)
      rwa [cat_nat] at this
    obtain ⟨y, hy⟩ : ∃ y : Int, y = (q : Int) := ⟨_, rfl⟩
    rw [← hy] at HKD0 HM0
    rw [← hy]
    have HY := hidden hy
    have hale : a ≤ 1000000 := by have := hR.out.2; have := H6.out; omega
    have HQr := hidden (grow_trans HQ1.out hB.out)
    have HB5r := hidden (HB51.out.grow hB.out)
    clear hy
    cases U with
    | emp =>
      have hq : q = 0 := hU.out
      subst hq
      have HKD : Hid (∀ w', Below w.heap.size w w' → Calls Tryz.prog 24 #[v, .int .i64 y] w' fun e w'' => e = .returned (.int .u8 0) ∧ Below w'.heap.size w' w'') := HKD0.out
      have HRA : Hid (T.rk K = a) := by
        have := hR.out.1
        show _ = _
        rw [← this]
        simp [Tre.rk]
      clear HKD0 hU HM0 HME hR
      go_wp2_with (go_at_call 24; refine (HKD.out _ HQr.out).mono ?_; rintro e w2 ⟨rfl, b2⟩; have HB52 := hidden (HB5r.out.grow b2); have HQ2 := hidden (grow_trans HQr.out b2); clear b2)
      refine wp_region_held_drew (S := fun w' => Below w2.heap.size w2 w') (by kernel_rfl) ((below_drewN (Below.refl _ _) 1)) (fun hHeld => ?_)
      refine tkp 0 v hHeld ?_
      simp only [Act.put, zq1, zq2, zq4, zq5, zq6]
      refine tkp 1 (.int .i64 y) hHeld ?_
      simp only [Act.put, zq1, zq2, zq3, zq4, zq5, zq6]
      refine wpAnyH_ready (rs := [2]) (by kernel_rfl) (by simp) ?_
      refine AllReadyH.cons rfl (fun KQ hK => ?_) AllReadyH.nil
      go_simp
      refine (HKD.out _ (grow_trans HQ2.out hHeld)).mono ?_
      rintro e z1 ⟨rfl, a1⟩
      refine hK.out _ _ (grow_trans hHeld a1) (fun hHeld => ?_)
      clear hK KQ
      refine tkp 3 (.bool false) hHeld ?_
      simp only [Act.put, zq1, zq2, zq3, zq4, zq5, zq6]
      refine tkp 4 (.bool false) hHeld ?_
      simp only [Act.put, zq1, zq2, zq3, zq4, zq5, zq6]
      refine tks 5 hHeld ?_
      simp only [Act.put, zq1, zq2, zq3, zq4, zq5, zq6]
      refine tks 6 hHeld ?_
      simp only [Act.put, zq1, zq2, zq3, zq4, zq5, zq6]
      refine tks 7 hHeld ?_
      simp only [Act.put, zq1, zq2, zq3, zq4, zq5, zq6]
      refine tks 8 hHeld ?_
      simp only [Act.put, zq1, zq2, zq3, zq4, zq5, zq6]
      refine tks 9 hHeld ?_
      simp only [Act.put, zq1, zq2, zq3, zq4, zq5, zq6]
      refine tks 10 hHeld ?_
      simp only [Act.put, zq1, zq2, zq3, zq4, zq5, zq6]
      refine tkp 11 (.bool false) hHeld ?_
      simp only [Act.put, zq1, zq2, zq3, zq4, zq5, zq6]
      refine wpAnyH_done (by kernel_rfl) ?_ _
      go_wp2
      go_ret2
      refine ⟨?_, grow_trans HQ2.out hHeld⟩
      rw [HRA.out]
      rfl
    | lf k b =>
      obtain ⟨h1, h2, h3, h4, h5⟩ := hU.out
      have hsd : sdC cs q = ce cs (q - 1) := if_neg (by omega)
      have HKD : Hid (∀ w', Below w.heap.size w w' → Calls Tryz.prog 24 #[v, .int .i64 y] w' fun e w'' => e = .returned (.int .u8 1) ∧ Below w'.heap.size w' w'') := by
        have := HKD0.out
        rw [hsd, h3] at this
        exact this
      have hkk : Key k := by
        have := (HW.out.ok (q - 1)).hk
        rwa [h4] at this
      have HKY : Hid (∀ w', Below w.heap.size w w' → Calls Tryz.prog 29 #[v, .int .i64 y] w' fun e w'' => e = .returned (.agg (B k)) ∧ Below w'.heap.size w' w'') := fun w' hb => by
        have := key_any (HV.out.grow hb) (q : Int)
        rw [cat_nat, hsd, h4, ← HY.out] at this
        exact this
      have HCM : Hid (∀ w', Calls Tryz.prog 8 #[.agg (B k), .agg (B K)] w' fun e w'' => e = .returned (.int .i64 (cmp k K)) ∧ Below w'.heap.size w' w'') := fun w' => pcompare_any k K w' hkk HK.out
      have HRA : Hid (T.rk K = a + if cmp k K < 0 then 1 else 0) := by
        have := hR.out.1
        show _ = _
        rw [← this]
        rfl
      clear HKD0 hU HM0 HME hR h1 h2 h3 h4 h5 hsd hkk
      generalize cmp k K = c at HCM HRA
      by_cases hc : c < 0
      · have HRB : Hid (T.rk K = a + 1) := by
          have := HRA.out
          rw [if_pos hc] at this
          exact this
        have hwa : wrap64 ((a : Int) + 1) = ((a + 1 : Nat) : Int) := by rw [Go.IntWalk.wrap64_in _ (by omega)]; rfl
        have hcd : decide (c < 0) = true := by simp [hc]
        clear HRA
        go_wp2_with (go_at_call 24; refine (HKD.out _ HQr.out).mono ?_; rintro e w2 ⟨rfl, b2⟩; have HB52 := hidden (HB5r.out.grow b2); have HQ2 := hidden (grow_trans HQr.out b2); clear b2)
        refine wp_region_held_drew (S := fun w' => Below w2.heap.size w2 w') (by kernel_rfl) ((below_drewN (Below.refl _ _) 1)) (fun hHeld => ?_)
        refine tkp 0 v hHeld ?_
        simp only [Act.put, zq1, zq2, zq4, zq5, zq6]
        refine tkp 1 (.int .i64 y) hHeld ?_
        simp only [Act.put, zq1, zq2, zq3, zq4, zq5, zq6]
        refine wpAnyH_ready (rs := [2]) (by kernel_rfl) (by simp) ?_
        refine AllReadyH.cons rfl (fun KQ hK => ?_) AllReadyH.nil
        go_simp
        refine (HKD.out _ (grow_trans HQ2.out hHeld)).mono ?_
        rintro e z1 ⟨rfl, a1⟩
        refine hK.out _ _ (grow_trans hHeld a1) (fun hHeld => ?_)
        clear hK KQ
        refine tkp 3 (.bool true) hHeld ?_
        simp only [Act.put, zq1, zq2, zq3, zq4, zq5, zq6]
        refine tkp 4 (.bool true) hHeld ?_
        simp only [Act.put, zq1, zq2, zq3, zq4, zq5, zq6]
        refine tkp 5 v hHeld ?_
        simp only [Act.put, zq1, zq2, zq3, zq4, zq5, zq6]
        refine tkp 6 (.int .i64 y) hHeld ?_
        simp only [Act.put, zq1, zq2, zq3, zq4, zq5, zq6]
        refine tkg 8 (.agg (B K)) rfl (yieldsIf_load_mid rfl 32 (.tmp 5) rfl b5 0 rfl (B K).toList _ (fun w hS => (HB52.out.grow hS).range) Tryz.underlying32 rfl HPL.out) hHeld ?_
        simp only [Act.put, zq1, zq2, zq3, zq4, zq5, zq6]
        refine wpAnyH_ready (rs := [7]) (by kernel_rfl) (by simp) ?_
        refine AllReadyH.cons rfl (fun KQ hK => ?_) AllReadyH.nil
        go_simp
        refine (HKY.out _ (grow_trans HQ2.out hHeld)).mono ?_
        rintro e z2 ⟨rfl, a2⟩
        refine hK.out _ _ (grow_trans hHeld a2) (fun hHeld => ?_)
        clear hK KQ
        refine wpAnyH_ready (rs := [9]) (by kernel_rfl) (by simp) ?_
        refine AllReadyH.cons rfl (fun KQ hK => ?_) AllReadyH.nil
        go_simp
        refine (HCM.out _).mono ?_
        rintro e z3 ⟨rfl, a3⟩
        refine hK.out _ _ (grow_trans hHeld a3) (fun hHeld => ?_)
        clear hK KQ
        refine tkp 10 (.bool true) hHeld ?_
        simp only [Act.put, zq1, zq2, zq3, zq4, zq5, zq6]
        refine tkp 11 (.bool true) hHeld ?_
        simp only [Act.put, zq1, zq2, zq3, zq4, zq5, zq6]
        refine wpAnyH_done (by kernel_rfl) ?_ _
        go_wp2
        go_ret2
        refine ⟨?_, grow_trans HQ2.out hHeld⟩
        rw [HRB.out]
        first
          | rfl
          | (rw [← hwa]; rfl)
      · have HRB : Hid (T.rk K = a) := by
          have := HRA.out
          rw [if_neg hc, Nat.add_zero] at this
          exact this
        have hcd : decide (c < 0) = false := by simp [hc]
        clear HRA
        go_wp2_with (go_at_call 24; refine (HKD.out _ HQr.out).mono ?_; rintro e w2 ⟨rfl, b2⟩; have HB52 := hidden (HB5r.out.grow b2); have HQ2 := hidden (grow_trans HQr.out b2); clear b2)
        refine wp_region_held_drew (S := fun w' => Below w2.heap.size w2 w') (by kernel_rfl) ((below_drewN (Below.refl _ _) 1)) (fun hHeld => ?_)
        refine tkp 0 v hHeld ?_
        simp only [Act.put, zq1, zq2, zq4, zq5, zq6]
        refine tkp 1 (.int .i64 y) hHeld ?_
        simp only [Act.put, zq1, zq2, zq3, zq4, zq5, zq6]
        refine wpAnyH_ready (rs := [2]) (by kernel_rfl) (by simp) ?_
        refine AllReadyH.cons rfl (fun KQ hK => ?_) AllReadyH.nil
        go_simp
        refine (HKD.out _ (grow_trans HQ2.out hHeld)).mono ?_
        rintro e z1 ⟨rfl, a1⟩
        refine hK.out _ _ (grow_trans hHeld a1) (fun hHeld => ?_)
        clear hK KQ
        refine tkp 3 (.bool true) hHeld ?_
        simp only [Act.put, zq1, zq2, zq3, zq4, zq5, zq6]
        refine tkp 4 (.bool true) hHeld ?_
        simp only [Act.put, zq1, zq2, zq3, zq4, zq5, zq6]
        refine tkp 5 v hHeld ?_
        simp only [Act.put, zq1, zq2, zq3, zq4, zq5, zq6]
        refine tkp 6 (.int .i64 y) hHeld ?_
        simp only [Act.put, zq1, zq2, zq3, zq4, zq5, zq6]
        refine tkg 8 (.agg (B K)) rfl (yieldsIf_load_mid rfl 32 (.tmp 5) rfl b5 0 rfl (B K).toList _ (fun w hS => (HB52.out.grow hS).range) Tryz.underlying32 rfl HPL.out) hHeld ?_
        simp only [Act.put, zq1, zq2, zq3, zq4, zq5, zq6]
        refine wpAnyH_ready (rs := [7]) (by kernel_rfl) (by simp) ?_
        refine AllReadyH.cons rfl (fun KQ hK => ?_) AllReadyH.nil
        go_simp
        refine (HKY.out _ (grow_trans HQ2.out hHeld)).mono ?_
        rintro e z2 ⟨rfl, a2⟩
        refine hK.out _ _ (grow_trans hHeld a2) (fun hHeld => ?_)
        clear hK KQ
        refine wpAnyH_ready (rs := [9]) (by kernel_rfl) (by simp) ?_
        refine AllReadyH.cons rfl (fun KQ hK => ?_) AllReadyH.nil
        go_simp
        refine (HCM.out _).mono ?_
        rintro e z3 ⟨rfl, a3⟩
        refine hK.out _ _ (grow_trans hHeld a3) (fun hHeld => ?_)
        clear hK KQ
        refine tkp 10 (.bool false) hHeld ?_
        simp only [Act.put, zq1, zq2, zq3, zq4, zq5, zq6]
        refine tkp 11 (.bool false) hHeld ?_
        simp only [Act.put, zq1, zq2, zq3, zq4, zq5, zq6]
        refine wpAnyH_done (by kernel_rfl) ?_ _
        go_wp2
        go_ret2
        refine ⟨?_, grow_trans HQ2.out hHeld⟩
        rw [HRB.out]
        rfl
    | nd d hl hr L R =>
      have n := nd_ok HW.out hU.out
      obtain ⟨h1, h2, h3, h4, h5, h6, h7, h8⟩ := hU.out
      have hsd : sdC cs q = ce cs (q - 1) := if_neg (by omega)
      have HKD : Hid (∀ w', Below w.heap.size w w' → Calls Tryz.prog 24 #[v, .int .i64 y] w' fun e w'' => e = .returned (.int .u8 2) ∧ Below w'.heap.size w' w'') := by
        have := HKD0.out
        rw [hsd, h3] at this
        exact this
      have HSD : Hid (∀ w', Below w.heap.size w w' → Calls Tryz.prog 25 #[v, .int .i64 y] w' fun e w'' => e = .returned (.tuple #[.int .i64 (hl : Int), .int .i64 (hr : Int)]) ∧ Below w'.heap.size w' w'') := fun w' hb => by
        have := sides_any (HV.out.grow hb) (q : Int)
        rw [cat_nat, hsd, h5, h6, ← HY.out] at this
        exact this
      have HDP : Hid (∀ w', Below w.heap.size w w' → Calls Tryz.prog 27 #[v, .int .i64 y] w' fun e w'' => e = .returned (.int .i64 (d : Int)) ∧ Below w'.heap.size w' w'') := fun w' hb => by
        have := depth_any (HV.out.grow hb) (q : Int)
        rw [cat_nat, hsd, show vDp true (ce cs (q - 1)) = (d : Int) by simp [vDp, h3, h4], ← HY.out] at this
        exact this
      have HBT : Hid (∀ w', Calls Tryz.prog 26 #[.agg (B K), .int .i64 (d : Int)] w' fun e w'' => e = .returned (.int .i64 (kb K d)) ∧ Below w'.heap.size w' w'') := fun w' => by
        have := bit_any K (d : Int) w' HK.out
        rwa [kbi_in K _ n.dp] at this
      have HSZ : Hid (∀ w', Below w.heap.size w w' → Calls Tryz.prog 28 #[v, .int .i64 (hl : Int)] w' fun e w'' => e = .returned (.int .i64 (L.ents.length : Int)) ∧ Below w'.heap.size w' w'') := fun w' hb => by
        have := size_any (HV.out.grow hb) (hl : Int)
        rwa [cat_nat, (tree_ok HW.out L hl h7).sz] at this
      have HRA : Hid (a + (if kb K d = 1 then L.ents.length + R.rk K else L.rk K) = T.rk K ∧ a + (L.ents.length + R.ents.length) ≤ T.ents.length) := by
        have h1 := hR.out.1
        have h2 := hR.out.2
        rw [Tre.ents, List.length_append] at h2
        exact ⟨h1, h2⟩
      have HML : Hid (mea (.int .i64 (hl : Int)) = L.num) := HME.out hl L h7
      have HMR : Hid (mea (.int .i64 (hr : Int)) = R.num) := HME.out hr R h8
      have HM1 : Hid (mea (.int .i64 y) = 1 + (L.num + R.num)) := HM0.out
      have HL := hidden h7
      have HR := hidden h8
      clear HKD0 hU HM0 HME hR h1 h2 h3 h4 h5 h6 h7 h8 hsd n
      have hkb := kb_two K d
      generalize kb K d = c at HBT HRA hkb
      generalize hdd : (d : Int) = dd at HDP HBT
      clear hdd
      rcases hkb with rfl | rfl
      · go_wp2_with (first
          | (go_at_call 24; refine (HKD.out _ HQr.out).mono ?_; rintro e w2 ⟨rfl, b2⟩; have HB52 := hidden (HB5r.out.grow b2); have HQ2 := hidden (grow_trans HQr.out b2); have HBB2 := hidden (grow_trans hB.out b2); clear b2)
          | (go_at_call 25; refine (HSD.out _ HQ2.out).mono ?_; rintro e w3 ⟨rfl, b3⟩; have HB53 := hidden (HB52.out.grow b3); have HQ3 := hidden (grow_trans HQ2.out b3); have HBB3 := hidden (grow_trans HBB2.out b3); clear b3))
        refine wp_region_held_drew (S := fun w' => Below w3.heap.size w3 w') (by kernel_rfl) ((below_drewN (Below.refl _ _) 1)) (fun hHeld => ?_)
        refine tkg 0 (.agg (B K)) rfl (yieldsIf_load_mid rfl 32 (.tmp 5) rfl b5 0 rfl (B K).toList _ (fun w hS => (HB53.out.grow hS).range) Tryz.underlying32 rfl HPL.out) hHeld ?_
        simp only [Act.put, zq1, zq2, zq4, zq5, zq6]
        refine tkp 1 v hHeld ?_
        simp only [Act.put, zq1, zq2, zq3, zq4, zq5, zq6]
        refine tkp 2 (.int .i64 y) hHeld ?_
        simp only [Act.put, zq1, zq2, zq3, zq4, zq5, zq6]
        refine wpAnyH_ready (rs := [3]) (by kernel_rfl) (by simp) ?_
        refine AllReadyH.cons rfl (fun KQ hK => ?_) AllReadyH.nil
        go_simp
        refine (HDP.out _ (grow_trans HQ3.out hHeld)).mono ?_
        rintro e z1 ⟨rfl, a1⟩
        refine hK.out _ _ (grow_trans hHeld a1) (fun hHeld => ?_)
        clear hK KQ
        refine wpAnyH_ready (rs := [4]) (by kernel_rfl) (by simp) ?_
        refine AllReadyH.cons rfl (fun KQ hK => ?_) AllReadyH.nil
        go_simp
        refine (HBT.out _).mono ?_
        rintro e z2 ⟨rfl, a2⟩
        refine hK.out _ _ (grow_trans hHeld a2) (fun hHeld => ?_)
        clear hK KQ
        refine tkp 5 (.bool true) hHeld ?_
        simp only [Act.put, zq1, zq2, zq3, zq4, zq5, zq6]
        refine wpAnyH_done (by kernel_rfl) ?_ _
        have HH := hidden hHeld
        clear hHeld
        go_wp2
        refine ⟨⟨a, hl, L, rfl, rfl, HL, ⟨?_, ?_⟩, grow_trans HBB3.out HH.out⟩, ?_⟩
        · have := HRA.out.1
          rw [if_neg (by omega)] at this
          exact this
        · have := HRA.out.2
          omega
        · rw [HML.out, HM1.out]
          omega
      · have hwa : wrap64 ((a : Int) + (L.ents.length : Int)) = ((a + L.ents.length : Nat) : Int) := by
          have := HRA.out.2
          have := H6.out
          rw [Go.IntWalk.wrap64_in _ (by omega)]
          rfl
        go_wp2_with (first
          | (go_at_call 24; refine (HKD.out _ HQr.out).mono ?_; rintro e w2 ⟨rfl, b2⟩; have HB52 := hidden (HB5r.out.grow b2); have HQ2 := hidden (grow_trans HQr.out b2); have HBB2 := hidden (grow_trans hB.out b2); clear b2)
          | (go_at_call 25; refine (HSD.out _ HQ2.out).mono ?_; rintro e w3 ⟨rfl, b3⟩; have HB53 := hidden (HB52.out.grow b3); have HQ3 := hidden (grow_trans HQ2.out b3); have HBB3 := hidden (grow_trans HBB2.out b3); clear b3))
        refine wp_region_held_drew (S := fun w' => Below w3.heap.size w3 w') (by kernel_rfl) ((below_drewN (Below.refl _ _) 1)) (fun hHeld => ?_)
        refine tkg 0 (.agg (B K)) rfl (yieldsIf_load_mid rfl 32 (.tmp 5) rfl b5 0 rfl (B K).toList _ (fun w hS => (HB53.out.grow hS).range) Tryz.underlying32 rfl HPL.out) hHeld ?_
        simp only [Act.put, zq1, zq2, zq4, zq5, zq6]
        refine tkp 1 v hHeld ?_
        simp only [Act.put, zq1, zq2, zq3, zq4, zq5, zq6]
        refine tkp 2 (.int .i64 y) hHeld ?_
        simp only [Act.put, zq1, zq2, zq3, zq4, zq5, zq6]
        refine wpAnyH_ready (rs := [3]) (by kernel_rfl) (by simp) ?_
        refine AllReadyH.cons rfl (fun KQ hK => ?_) AllReadyH.nil
        go_simp
        refine (HDP.out _ (grow_trans HQ3.out hHeld)).mono ?_
        rintro e z1 ⟨rfl, a1⟩
        refine hK.out _ _ (grow_trans hHeld a1) (fun hHeld => ?_)
        clear hK KQ
        refine wpAnyH_ready (rs := [4]) (by kernel_rfl) (by simp) ?_
        refine AllReadyH.cons rfl (fun KQ hK => ?_) AllReadyH.nil
        go_simp
        refine (HBT.out _).mono ?_
        rintro e z2 ⟨rfl, a2⟩
        refine hK.out _ _ (grow_trans hHeld a2) (fun hHeld => ?_)
        clear hK KQ
        refine tkp 5 (.bool false) hHeld ?_
        simp only [Act.put, zq1, zq2, zq3, zq4, zq5, zq6]
        refine wpAnyH_done (by kernel_rfl) ?_ _
        have HH := hidden hHeld
        clear hHeld
        go_wp2_with (go_at_call 28; refine (HSZ.out _ (grow_trans HQ3.out HH.out)).mono ?_; rintro e w4 ⟨rfl, b4⟩; have HBB4 := hidden (grow_trans (grow_trans HBB3.out HH.out) b4); clear b4)
        refine ⟨⟨a + L.ents.length, hr, R, by first | rfl | go_num, rfl, HR, ⟨?_, ?_⟩, HBB4.out⟩, ?_⟩
        · have h9 := HRA.out.1
          simp only [if_true] at h9
          omega
        · have := HRA.out.2
          omega
        · rw [HMR.out, HM1.out]
          omega

end Go.Proofs.YtnnmfgnommbmkaaGreatDoor
