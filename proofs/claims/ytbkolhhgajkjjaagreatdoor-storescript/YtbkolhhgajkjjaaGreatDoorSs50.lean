/- put.Put and put.Cost, as contracts. -/
import Derived.Test.YtbkolhhgajkjjaaGreatDoorSs01
import Derived.Test.YtbkolhhgajkjjaaGreatDoorSs49
import Derived.Test.YtbkolhhgajkjjaaGreatDoorSs43
import Derived.Test.YtbkolhhgajkjjaaGreatDoorSs47
namespace Go.Proofs.YtbkolhhgajkjjaaGreatDoor
set_option maxRecDepth 20000
open Go.RowKit

def PutTo (cs : List (Nat × Ce)) (fr : List Nat) (root : Nat) (K bs : List Int) (ss : List Nat) (top : Nat) (cs' : List (Nat × Ce)) (fr' : List Nat) : Prop :=
  ∃ (v' : Value) (cs2 : List (Nat × Ce)) (fr2 : List Nat), CeOk (lfC (lfD K (vaD bs)) K v' bs) ∧ Rz K ss (tkC (holdM cs ss) fr (1, lfC (lfD K (vaD bs)) K v' bs)) fr.dropLast (tkH (holdM cs ss) fr) cs2 fr2 top ∧ ((root = 0 ∧ cs' = cs2 ∧ fr' = fr2) ∨ (1 ≤ root ∧ ∃ n, Run cs2 fr2 [root] cs' fr' n))

def PtPost (w0 : World) (S : List Nat) (g gs room : Nat) (cs : List (Nat × Ce)) (fr : List Nat) (E : List Ent) (root : Nat) (K bs : List Int) (ss : List Nat) (e : Ending) (w' : World) : Prop :=
  ∃ (top : Nat) (cs' : List (Nat × Ce)) (fr' : List Nat), e = .returned (.tuple #[.int .i64 (top : Int), .int .i64 0]) ∧ PutTo cs fr root K bs ss top cs' fr' ∧ PutOk cs E K bs root top ss cs' ∧ Hs w0 S w' g gs room cs' fr'

end Go.Proofs.YtbkolhhgajkjjaaGreatDoor

namespace Go.Proofs.YtbkolhhgajkjjaaGreatDoor
set_option maxRecDepth 20000
open Go.RowKit

structure Rt (cs : List (Nat × Ce)) (h : Nat) (T : Tre) : Prop where
  tree : IsT cs h T
  dp : (sdC cs h).kind = 2 → (sdC cs h).dp = 0
  own : h = 0 ∨ 0 < own cs [] (h - 1)

def upE (E : List Ent) (K bs : List Int) : List Ent := (K, bs) :: E.filter fun e => !(e.1 == K)

def costN (T : Tre) (K bs : List Int) (ss : List Nat) : Nat := if T.efin K = [(K, bs)] then 0 else 1 + ss.length

structure PaIs (cs : List (Nat × Ce)) (fr : List Nat) (T : Tre) (h : Nat) (K bs : List Int) (ss : List Nat) (top : Nat) (cs' : List (Nat × Ce)) (fr' : List Nat) (T' : Tre) : Prop where
  rt : Rt cs' top T'
  ents : T'.ents.Perm (upE T.ents K bs)
  pos : 1 ≤ top
  own : ∀ i, own cs' [] i + (if h = i + 1 then 1 else 0) = own cs [] i + (if top = i + 1 then 1 else 0)
  keep : ∀ x X, IsT cs x X → (x = 0 ∨ 0 < cc cs' (x - 1)) → IsT cs' x X
  noc : noc cs' ≤ noc cs + costN T K bs ss
  same : T.efin K = [(K, bs)] → top = h ∧ cs' = cs ∧ fr' = fr
  just : h = 0 ∨ h ∈ ss → Go.Proofs.YtbkolhhgajkjjaaGreatDoor.noc cs' = Go.Proofs.YtbkolhhgajkjjaaGreatDoor.noc cs + costN T K bs ss
  new : T.efin K ≠ [(K, bs)] → cc cs (top - 1) = 0
  len : cs'.length ≤ cs.length + costN T K bs ss

def PaPost (w0 : World) (S : List Nat) (g gs room : Nat) (cs : List (Nat × Ce)) (fr : List Nat) (T : Tre) (h : Nat) (K bs : List Int) (ss : List Nat) (e : Ending) (w' : World) : Prop :=
  ∃ (top : Nat) (cs' : List (Nat × Ce)) (fr' : List Nat) (T' : Tre), e = .returned (.tuple #[.int .i64 (top : Int), .int .i64 0]) ∧ PaIs cs fr T h K bs ss top cs' fr' T' ∧ Hs w0 S w' g gs room cs' fr'

theorem hs_new (room : Nat) (w : World) (h1 : 1 ≤ room) (h2 : room ≤ 65536) : Calls Tryz.prog 8 #[.int .i64 (room : Int)] w fun e w' => ∃ g gs, e = .returned (.tuple #[.pointer (some ⟨g, 0, none⟩), .int .i64 0]) ∧ Hs w [] w' g gs room [] [] := by
  refine (newS_ok room w h1 h2).mono ?_
  rintro e w' ⟨g, gs, rfl, hg, hgs, s, b⟩
  refine ⟨g, gs, rfl, ⟨_, _, s, Mod.of_below b _, fun k hk => .inr ?_⟩, Wf.new⟩
  rcases stB_mem.1 hk with rfl | hk | ⟨i, hk⟩
  · exact hg
  · rcases slB_mem.1 hk with rfl | hk | hk
    · exact hgs
    · cases hk
    · cases hk
  · simp only [ce, List.getElem?_nil, Option.getD_none] at hk
    cases hk

theorem kq_nil {w : World} {P : World → Prop} (h : ∀ w', Below w.heap.size w w' → P w') : Kq [] w P := fun w' m => h w' m.below0
end Go.Proofs.YtbkolhhgajkjjaaGreatDoor

namespace Go.Proofs.YtbkolhhgajkjjaaGreatDoor
set_option maxRecDepth 20000
open Go.RowKit

theorem p7_new {w w1 w2 : World} {g gs q room : Nat} (h : Hs w [] w1 g gs room [] []) (hq : w1.heap.size ≤ q) (d : Rs w2 q (.slice none 0 0) (.slice none 0 0) room [] []) (hb : Below w1.heap.size w1 w2) : P7 w [] w2 g gs q room [] [] := by
  obtain ⟨⟨vp, vf, s, m, n⟩, W⟩ := h
  refine ⟨[], ⟨vp, vf, _, _, s.grow hb, d, fun k hk hk2 => ?_, m.trans' (Mod.of_below hb []), n, fun k hk => .inr ?_⟩, Rel7.new, W⟩
  · have := s.lts k hk
    rcases rsB_mem.1 hk2 with rfl | h | h | ⟨_, h, _⟩
    · omega
    · cases h
    · cases h
    · cases h
  · rcases rsB_mem.1 hk with rfl | h | h | ⟨_, h, _⟩
    · exact Nat.le_trans m.size hq
    · cases h
    · cases h
    · cases h

theorem az_val (a : Ac) (h : a.K.length = 32) : (acL a)[33]? = some a.v := by
  have h1 : (a.K.map (Value.int .u8)).length = 32 := by simp [h]
  show (a.K.map (Value.int .u8) ++ _)[32]? = _
  rw [List.getElem?_append_right (by omega), h1]
  rfl

set_option maxHeartbeats 16000000 in
theorem storeScript_walk (room : Int) (v : Value) (qs : List Ac) (w : World) (hv : AcAt w v qs) (hL : Laid w) : Calls Tryz.prog 3 #[.int .i64 room, v] w fun e w' => e = .returned (.bool true) ∧ Below w.heap.size w w' := by
  have HLa : Hid (Kq [] w Laid) := kq_nil fun w' hb => hL.grow hb
  obtain ⟨a, c, rfl, hcell, hall⟩ := hv
  have HCE := hidden hcell
  have HAL := hidden hall
  obtain ⟨N, hN⟩ : ∃ N, N = qs.length := ⟨_, rfl⟩
  rw [← hN]
  have HN := hidden hN
  clear hL hcell hall hN
  by_cases h200 : 200 < N
  · have i1 : (200 : Int) < (N : Int) := by omega
    go_enter Tryz.func3, Tryz.ntmps3
    go_wp2
    go_ret
    exact ⟨rfl, Below.refl _ _⟩
  · have i1 : ¬ (200 : Int) < (N : Int) := by omega
    have h200' : N ≤ 200 := by omega
    clear h200
    by_cases hr : 1 ≤ room ∧ room ≤ 65536
    · by_cases hr2 : 60 < room
      · obtain ⟨_, r2⟩ := hr
        go_enter Tryz.func3, Tryz.ntmps3
        go_wp2
        go_ret
        exact ⟨rfl, Below.refl _ _⟩
      · obtain ⟨rm, rfl⟩ : ∃ n : Nat, room = (n : Int) := ⟨room.toNat, by omega⟩
        have HRM : Hid (rm ≤ 60) := by show rm ≤ 60; omega
        have HNW := hidden (hs_new rm w (by omega) (by omega))
        have HNR : Hid (∀ w', Calls Tryz.prog 9 #[.int .i64 (rm : Int)] w' fun e w'' => ∃ g, e = .returned (.tuple #[.pointer (some ⟨g, 0, none⟩), .int .i64 0]) ∧ w'.heap.size ≤ g ∧ Rs w'' g (.slice none 0 0) (.slice none 0 0) rm [] [] ∧ Below w'.heap.size w' w'') := fun w' => rnew7_ok rm w' (by omega) (by omega)
        clear hr
        go_enter Tryz.func3, Tryz.ntmps3
        go_wp2_with (first
          | (go_at_call 8; refine HNW.out.mono ?_; rintro e w1 ⟨g, gs, rfl, h1⟩; have HH1 := hidden h1; clear h1)
          | (go_at_call 9; refine (HNR.out _).mono ?_; rintro e w2 ⟨q, rfl, h2, d2, b2⟩; have HP2 := hidden (p7_new HH1.out h2 d2 b2); clear h2 d2 b2))
        clear HNW HNR HH1
        go_loopw [9] (fun iv wr => ∃ (k : Nat) (cs : List (Nat × Ce)) (fr : List Nat), k ≤ N ∧ iv = .int .i64 (k : Int) ∧ Hid (P7 w [] wr g gs q rm cs fr)) (fun iv _ => N - (intOf iv).toNat)
        case atStart => exact ⟨0, [], [], by omega, rfl, HP2⟩
        case round =>
          clear HP2
          obtain ⟨k, cs, fr, hk, rfl, hH⟩ := hrel
          by_cases hlt : k < N
          · obtain ⟨b, off, rfl, hrg⟩ := HCE.out (by rw [← HN.out]; omega)
            have hlow := hH.out.mod.below0
            have HRG : Hid (wr.rangeAt b (off + k * 37) (acL (qs.getD k default))) := fun j u hu => by
              have := hrg k (by rw [← HN.out]; exact hlt) j u hu
              exact below_cell hlow this
            obtain ⟨q1, q2, q3⟩ := HAL.out k (by rw [← HN.out]; exact hlt)
            obtain ⟨va, vc, e2, _⟩ := q2
            have hcv : wr.cell? ⟨b, off + k * 37 + 33, none⟩ = some (.slice va (qs.getD k default).bs.length vc) := by
              refine HRG.out 33 _ ?_
              rw [← e2]
              exact az_val _ q1.1
            have HAC : Hid ((qs.getD k default).bs.length ≤ 2000 → Calls Tryz.prog 10 #[.pointer (some ⟨g, 0, none⟩), .pointer (some ⟨q, 0, none⟩), .agg (acL (qs.getD k default)).toArray] wr (ActPost7 w [] g gs q rm)) := fun hm => act7_any hH.out HRM.out (qs.getD k default) q1 (kq_nil fun w' hb => (HAL.out k (by rw [← HN.out]; exact hlt)).2.1.grow hb) hm HLa.out
            have HSZ : Hid ((Tryz.prog.info? 34).map (·.size) = some (acL (qs.getD k default)).length) := by
              show _ = _
              rw [acL, azL_length _ _ _ _ _ _ q1.1]
              exact size_act
            generalize acL (qs.getD k default) = A at HRG HAC HSZ
            generalize (qs.getD k default).bs.length = vn at hcv HAC
            have k0 : (0 : Int) ≤ (k : Int) := by omega
            have k1 : (k : Int) < (N : Int) := by omega
            have hwk : wrap64 ((k : Int) + 1) = ((k + 1 : Nat) : Int) := by rw [Go.IntWalk.wrap64_in _ (by omega)]; rfl
            have HLW := hidden hlow
            clear hrg q1 q3 e2 hlow
            by_cases hvn : 2000 < vn
            · have j1 : (2000 : Int) < (vn : Int) := by omega
              go_wp2
              go_ret
              exact ⟨rfl, HLW.out⟩
            · have j1 : ¬ (2000 : Int) < (vn : Int) := by omega
              have HA2 := hidden (HAC.out (by omega))
              clear HAC hvn
              go_wp2_with (first
                | ((with_reducible refine at_ldd 61 60 ?_); refine wpList_load_mid rfl _ _ rfl b (off + k * 37) rfl A _ HRG.out Tryz.underlying34 rfl HSZ.out ?_)
                | (go_at_call 10; refine HA2.out.mono ?_; rintro e w3 ⟨rfl, cs3, fr3, h3⟩; have HH3 := hidden h3; clear h3))
              exact ⟨⟨k + 1, cs3, fr3, by omega, by go_num, HH3⟩, by simp [intOf]; omega⟩
          · obtain rfl : k = N := by omega
            have nlt : ¬ (k : Int) < (k : Int) := by omega
            have HSM := hidden (same_p7 hH.out (by have := HRM.out; omega) (hH.out.kq HLa.out) true (fun _ => HRM.out))
            clear hlt hk
            go_wp2_with (first
              | (go_at_call 11; refine HSM.out.mono ?_; rintro e w5 ⟨rfl, b5⟩; have HB5 := hidden (grow_trans hH.out.mod.below0 b5); clear b5))
            go_ret
            exact ⟨rfl, HB5.out⟩
    · have HNW := hidden (newS_bad room w hr)
      have HNR := hidden (rnew7_bad room w (by omega))
      have n60 : ¬ (60 < room ∧ room ≤ 65536) := by omega
      by_cases hr2 : 60 < room
      · have r3 : ¬ room ≤ 65536 := by omega
        clear hr n60
        go_enter Tryz.func3, Tryz.ntmps3
        go_wp2_with (first
          | (go_at_call 8; refine HNW.out.mono ?_; rintro e w' ⟨rfl, hx⟩; rw [hx]; clear hx w')
          | (go_at_call 9; refine HNR.out.mono ?_; rintro e w' ⟨rfl, hx⟩; rw [hx]; clear hx w'))
        go_ret
        exact ⟨rfl, Below.refl _ _⟩
      · clear hr n60
        go_enter Tryz.func3, Tryz.ntmps3
        go_wp2_with (first
          | (go_at_call 8; refine HNW.out.mono ?_; rintro e w' ⟨rfl, hx⟩; rw [hx]; clear hx w')
          | (go_at_call 9; refine HNR.out.mono ?_; rintro e w' ⟨rfl, hx⟩; rw [hx]; clear hx w'))
        go_ret
        exact ⟨rfl, Below.refl _ _⟩

end Go.Proofs.YtbkolhhgajkjjaaGreatDoor
