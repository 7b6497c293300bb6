/- What a store tells as a node by digests (Node), as a contract. -/
import Derived.Test.YtgfdgjkbcdmboabGreatDoorLk21
import Derived.Test.YtgfdgjkbcdmboabGreatDoorLk01
import Derived.Test.YtgfdgjkbcdmboabGreatDoorLk09
import Derived.Test.YtgfdgjkbcdmboabGreatDoorLk24
namespace Go.Proofs.YtgfdgjkbcdmboabGreatDoor
set_option maxRecDepth 20000
open Go.RowKit

/-- What Node answers. -/
def vNd (mk : Bool) (ca : Int → Ce) (h : Int) : List Int := if (ca h).kind = 1 then nd 1 (ca h).key (vaD (ca h).bs) z32 z32 else if (ca h).kind = 2 then nd 2 z32 z32 (vDg mk ca ((ca h).l : Int)) (vDg mk ca ((ca h).r : Int)) else nd 0 z32 z32 z32 z32

theorem vNd_ok {w : World} {v : Value} {mk : Bool} {ct : Int → Nat} {ca : Int → Ce} (V : Vw w v mk ct ca) (h : Int) : (vNd mk ca h).length = 129 ∧ ∃ k a b c d, vNd mk ca h = nd k a b c d ∧ Nd k a b c d := by
  have z := z32_bytes
  have hq : ∃ k a b c d, vNd mk ca h = nd k a b c d ∧ Nd k a b c d := by
    unfold vNd
    split
    · exact ⟨_, _, _, _, _, rfl, by omega, by omega, (V.ok h).hk.1, dig_length _, rfl, rfl, (V.ok h).hk.2, dig_bytes _, z, z⟩
    · split
      · exact ⟨_, _, _, _, _, rfl, by omega, by omega, rfl, rfl, (vDg_len V _).1, (vDg_len V _).1, z, z, (vDg_len V _).2, (vDg_len V _).2⟩
      · exact ⟨_, _, _, _, _, rfl, by omega, by omega, rfl, rfl, rfl, rfl, z, z, z, z⟩
  obtain ⟨k, a, b, c, d, e, n⟩ := hq
  exact ⟨by rw [e]; exact n.length, k, a, b, c, d, e, n⟩

theorem nodeS_size {zs : List Int} (h : zs.length = 129) : (Tryz.prog.info? 171).map (·.size) = some (B zs).size := by rw [B_size, h]; kernel_rfl

theorem nodeS_zero : ∀ w, (zeroValue 171).run Tryz.prog w = .ok (.agg (B (nd 0 z32 z32 z32 z32))) w := zero_of_info (n := 129) (by kernel_rfl) |>.1

theorem zagg_node : Value.agg Tryz.zeroCells171 = .agg (B (nd 0 z32 z32 z32 z32)) := by kernel_rfl

end Go.Proofs.YtgfdgjkbcdmboabGreatDoor

/- What stands in every world that differs in some blocks alone; rows of any kind that are the call's own. -/
namespace Go.Proofs.YtgfdgjkbcdmboabGreatDoor
set_option maxRecDepth 20000
open Go.RowKit

/-- P stands in every world that differs from w in the blocks S alone. -/
def Kq (S : List Nat) (w : World) (P : World → Prop) : Prop := ∀ w', Mod S w w' → P w'
theorem Kq.now {S : List Nat} {w : World} {P : World → Prop} (h : Kq S w P) : P w := h w (Mod.refl _ _)
theorem Kq.turn {S S1 : List Nat} {w w1 : World} {P : World → Prop} (h : Kq S w P) (m : Mod S w w1) (n : New S w S1) : Kq S1 w1 P := fun w' m' => h w' (m.trans n m')
theorem Kq.step {S : List Nat} {w w1 : World} {P : World → Prop} (h : Kq S w P) (m : Mod S w w1) : Kq S w1 P := h.turn m (New.refl _ _)
theorem Kq.grow {S : List Nat} {w w1 : World} {P : World → Prop} (h : Kq S w P) (b : Below w.heap.size w w1) : Kq S w1 P := h.step (Mod.of_below b S)
theorem Kq.imp {S : List Nat} {w : World} {P Q : World → Prop} (h : Kq S w P) (q : ∀ w', Mod S w w' → P w' → Q w') : Kq S w Q := fun w' m => q w' m (h w' m)
theorem Kq.blk {S : List Nat} {w : World} {g : Nat} {t : TypeId} {cs : Array Value} (h : Blk w g t cs) (hn : g ∉ S) : Kq S w (fun w' => Blk w' g t cs) := fun _ m => h.mod m hn
/-- What stands in all worlds that have but grown since b stands where only blocks from b on turn. -/
theorem Kq.of_low {S : List Nat} {w0 w : World} {P : World → Prop} (h : ∀ w', Below w0.heap.size w0 w' → P w') (hb : Below w0.heap.size w0 w) (hS : ∀ k ∈ S, w0.heap.size ≤ k) : Kq S w P := fun w' m => h w' (hb.trans (m.below hS hb.size))

theorem owR_mod {w w' : World} {base : Nat} {e : TypeId} {k : Nat} {v : Value} {n : Nat} {xs : List Value} {S : List Nat} (h : w.ownsRow base e k v n xs) (m : Mod S w w') (hn : ∀ g, v.ownBlock = some g → g ∉ S) : w'.ownsRow base e k v n xs := by
  refine ⟨h.1, ?_⟩
  rcases h.2 with hh | ⟨g, cap, cur, rfl, hb, hgg, rest⟩
  · exact .inl hh
  · exact .inr ⟨g, cap, cur, rfl, hb, (m.block g (Array.getElem?_eq_some_iff.1 hgg).1 (hn g rfl)).trans hgg, rest⟩
theorem owR_grow {w w' : World} {base : Nat} {e : TypeId} {k : Nat} {v : Value} {n : Nat} {xs : List Value} (h : w.ownsRow base e k v n xs) (hb : Below w.heap.size w w') : w'.ownsRow base e k v n xs := owR_mod h (Mod.of_below hb []) (fun _ _ h => by cases h)
theorem owR_base {w : World} {base base' : Nat} {e : TypeId} {k : Nat} {v : Value} {n : Nat} {xs : List Value} (h : w.ownsRow base e k v n xs) (hb : base' ≤ base) : w.ownsRow base' e k v n xs := by
  refine ⟨h.1, h.2.imp id ?_⟩
  rintro ⟨g, cap, cur, e1, e2, e3⟩
  exact ⟨g, cap, cur, e1, Nat.le_trans hb e2, e3⟩
theorem owR_lst {w : World} {base : Nat} {e : TypeId} {k : Nat} {v : Value} {n : Nat} {xs : List Value} (h : w.ownsRow base e k v n xs) : Lst w e k v n xs := ⟨h.1, h.2.imp id (fun ⟨g, cap, cur, a1, _, a3⟩ => ⟨g, cap, cur, a1, Nat.zero_le _, a3⟩)⟩
/-- A list of the call's own that grew leaves all below as it was. -/
theorem owR_below {w0 w w' : World} {base : Nat} {e : TypeId} {k : Nat} {v : Value} {n : Nat} {xs : List Value} (hb : Below w0.heap.size w0 w) (h : w.ownsRow base e k v n xs) (hl : w0.heap.size ≤ base) (hg : w.grownBy w' v.ownBlock) : Below w0.heap.size w0 w' := by
  have m : Mod v.ownBlock.toList w w' := Mod.of_grown hg (fun k hk => by simp [hk])
  refine hb.trans (m.below (fun k hk => ?_) hb.size)
  have := (h.lt k (by simpa using hk)).1
  omega

end Go.Proofs.YtgfdgjkbcdmboabGreatDoor

/- walk.fork and walk.Handles, as contracts. -/
namespace Go.Proofs.YtgfdgjkbcdmboabGreatDoor
set_option maxRecDepth 20000
open Go.RowKit

theorem pth_ln (D : List Int) (h : D.length = 32) : (Tryz.prog.info? 24).map (·.size) = some (B D).toList.length := by rw [B_toList, List.length_map, h]; exact size_path

set_option maxHeartbeats 2000000 in
theorem fork_any {w : World} {v : Value} {ct : Int → Nat} {ca : Int → Ce} (V : Vw w v true ct ca) (h : Int) (K : List Int) (hK : Key K) (hk : (ca h).kind = 2) (hd : (ca h).dp < 256) : Calls Tryz.prog 155 #[v, .int .i64 h, .agg (B K)] w fun e w' => e = .returned (.tuple #[.int .i64 ((if kb K (ca h).dp = 1 then (ca h).r else (ca h).l : Nat) : Int), .int .i64 ((if kb K (ca h).dp = 1 then (ca h).l else (ca h).r : Nat) : Int)]) ∧ Below w.heap.size w w' := by
  have HSD : Hid (∀ w', Below w.heap.size w w' → Calls Tryz.prog 58 #[v, .int .i64 h] w' fun e w'' => e = .returned (.tuple #[.int .i64 ((ca h).l : Int), .int .i64 ((ca h).r : Int)]) ∧ Below w'.heap.size w' w'') := fun w' hb => sides_any (V.grow hb) h
  have HDP : Hid (∀ w', Below w.heap.size w w' → Calls Tryz.prog 60 #[v, .int .i64 h] w' fun e w'' => e = .returned (.int .i64 ((ca h).dp : Int)) ∧ Below w'.heap.size w' w'') := fun w' hb => by
    have := depth_any (V.grow hb) h
    rwa [show vDp true (ca h) = ((ca h).dp : Int) by simp [vDp, hk]] at this
  have HBT : Hid (∀ w', Calls Tryz.prog 59 #[.agg (B K), .int .i64 ((ca h).dp : Int)] w' fun e w'' => e = .returned (.int .i64 (kb K (ca h).dp)) ∧ Below w'.heap.size w' w'') := fun w' => by
    have := bit_any K ((ca h).dp : Int) w' hK
    rwa [kbi_in K _ hd] at this
  have HPL := hidden (pth_ln K hK.1)
  clear V hk hd hK
  generalize (ca h).l = l at HSD ⊢
  generalize (ca h).r = r at HSD ⊢
  generalize (ca h).dp = d at HDP HBT ⊢
  have hq := kb_two K d
  generalize kb K d = q at HBT hq ⊢
  generalize hdd : (d : Int) = dd at HDP HBT
  clear hdd
  rcases hq with rfl | rfl
  · rw [if_neg (by omega), if_neg (by omega)]
    go_enter Tryz.func155, Tryz.ntmps155
    go_wp2_with (first
      | ((with_reducible refine at_bxd 5 ?_); refine wpList_bx _ rfl _ _ rfl _ rfl ?_; intro w1 b5 hg5 hl5 B5 q5; have HB5 := hidden B5; have HQ5 := hidden q5; clear hg5 hl5 B5 q5)
      | (go_at_call 58; refine (HSD.out _ HQ5.out).mono ?_; rintro e w2 ⟨rfl, b2⟩; have HB52 := hidden (HB5.out.grow b2); have HQ2 := hidden (grow_trans HQ5.out b2); clear b2))
    refine wp_region_held_drew (S := fun w' => Below w2.heap.size w2 w') (by kernel_rfl) ((below_drewN (Below.refl _ _) 1)) (fun hHeld => ?_)
    refine wpAnyH_take (i := 0) (v := .agg (B K)) rfl (by kernel_rfl) (by kernel_rfl) (by kernel_rfl) (fun _ _ _ h => h) (yieldsIf_load_mid rfl 24 (.tmp 5) rfl b5 0 rfl (B K).toList _ (fun w hS => (HB52.out.grow hS).range) Tryz.underlying24 rfl HPL.out) hHeld ?_
    simp only [Act.put, List.getElem_toArray, List.getElem_cons_zero, List.setIfInBounds_toArray, List.set_cons_zero, List.set_cons_succ]
    refine wpAnyH_take (i := 1) (v := v) rfl (by kernel_rfl) (by kernel_rfl) (by kernel_rfl) (fun _ _ _ h => h) (Or.inl ⟨by rfl, fun w hS => by go_simp⟩) hHeld ?_
    simp only [Act.put, List.getElem_toArray, List.getElem_cons_zero, List.getElem_cons_succ, List.setIfInBounds_toArray, List.set_cons_zero, List.set_cons_succ]
    refine wpAnyH_take (i := 2) (v := .int .i64 h) rfl (by kernel_rfl) (by kernel_rfl) (by kernel_rfl) (fun _ _ _ h => h) (Or.inl ⟨by rfl, fun w hS => by go_simp⟩) hHeld ?_
    simp only [Act.put, List.getElem_toArray, List.getElem_cons_zero, List.getElem_cons_succ, List.setIfInBounds_toArray, List.set_cons_zero, List.set_cons_succ]
    refine wpAnyH_ready (rs := [3]) (by kernel_rfl) (by simp) ?_
    refine AllReadyH.cons rfl (fun KQ hK => ?_) AllReadyH.nil
    go_simp
    refine (HDP.out _ (grow_trans HQ2.out hHeld)).mono ?_
    rintro e z1 ⟨rfl, a1⟩
    refine hK.out _ _ (grow_trans hHeld a1) (fun hHeld => ?_)
    clear hK KQ
    refine wpAnyH_ready (rs := [4]) (by kernel_rfl) (by simp) ?_
    refine AllReadyH.cons rfl (fun KQ hK => ?_) AllReadyH.nil
    go_simp
    refine (HBT.out _).mono ?_
    rintro e z2 ⟨rfl, a2⟩
    refine hK.out _ _ (grow_trans hHeld a2) (fun hHeld => ?_)
    clear hK KQ
    refine wpAnyH_take (i := 5) (v := .bool false) rfl (by kernel_rfl) (by kernel_rfl) (by kernel_rfl) (fun _ _ _ h => h) (Or.inl ⟨by rfl, fun w hS => by go_simp⟩) hHeld ?_
    simp only [Act.put, List.getElem_toArray, List.getElem_cons_zero, List.getElem_cons_succ, List.setIfInBounds_toArray, List.set_cons_zero, List.set_cons_succ]
    refine wpAnyH_done (by kernel_rfl) ?_ _
    go_wp2
    go_ret2
    exact ⟨rfl, grow_trans HQ2.out hHeld⟩
  · rw [if_pos rfl, if_pos rfl]
    go_enter Tryz.func155, Tryz.ntmps155
    go_wp2_with (first
      | ((with_reducible refine at_bxd 5 ?_); refine wpList_bx _ rfl _ _ rfl _ rfl ?_; intro w1 b5 hg5 hl5 B5 q5; have HB5 := hidden B5; have HQ5 := hidden q5; clear hg5 hl5 B5 q5)
      | (go_at_call 58; refine (HSD.out _ HQ5.out).mono ?_; rintro e w2 ⟨rfl, b2⟩; have HB52 := hidden (HB5.out.grow b2); have HQ2 := hidden (grow_trans HQ5.out b2); clear b2))
    refine wp_region_held_drew (S := fun w' => Below w2.heap.size w2 w') (by kernel_rfl) ((below_drewN (Below.refl _ _) 1)) (fun hHeld => ?_)
    refine wpAnyH_take (i := 0) (v := .agg (B K)) rfl (by kernel_rfl) (by kernel_rfl) (by kernel_rfl) (fun _ _ _ h => h) (yieldsIf_load_mid rfl 24 (.tmp 5) rfl b5 0 rfl (B K).toList _ (fun w hS => (HB52.out.grow hS).range) Tryz.underlying24 rfl HPL.out) hHeld ?_
    simp only [Act.put, List.getElem_toArray, List.getElem_cons_zero, List.setIfInBounds_toArray, List.set_cons_zero, List.set_cons_succ]
    refine wpAnyH_take (i := 1) (v := v) rfl (by kernel_rfl) (by kernel_rfl) (by kernel_rfl) (fun _ _ _ h => h) (Or.inl ⟨by rfl, fun w hS => by go_simp⟩) hHeld ?_
    simp only [Act.put, List.getElem_toArray, List.getElem_cons_zero, List.getElem_cons_succ, List.setIfInBounds_toArray, List.set_cons_zero, List.set_cons_succ]
    refine wpAnyH_take (i := 2) (v := .int .i64 h) rfl (by kernel_rfl) (by kernel_rfl) (by kernel_rfl) (fun _ _ _ h => h) (Or.inl ⟨by rfl, fun w hS => by go_simp⟩) hHeld ?_
    simp only [Act.put, List.getElem_toArray, List.getElem_cons_zero, List.getElem_cons_succ, List.setIfInBounds_toArray, List.set_cons_zero, List.set_cons_succ]
    refine wpAnyH_ready (rs := [3]) (by kernel_rfl) (by simp) ?_
    refine AllReadyH.cons rfl (fun KQ hK => ?_) AllReadyH.nil
    go_simp
    refine (HDP.out _ (grow_trans HQ2.out hHeld)).mono ?_
    rintro e z1 ⟨rfl, a1⟩
    refine hK.out _ _ (grow_trans hHeld a1) (fun hHeld => ?_)
    clear hK KQ
    refine wpAnyH_ready (rs := [4]) (by kernel_rfl) (by simp) ?_
    refine AllReadyH.cons rfl (fun KQ hK => ?_) AllReadyH.nil
    go_simp
    refine (HBT.out _).mono ?_
    rintro e z2 ⟨rfl, a2⟩
    refine hK.out _ _ (grow_trans hHeld a2) (fun hHeld => ?_)
    clear hK KQ
    refine wpAnyH_take (i := 5) (v := .bool true) rfl (by kernel_rfl) (by kernel_rfl) (by kernel_rfl) (fun _ _ _ h => h) (Or.inl ⟨by rfl, fun w hS => by go_simp⟩) hHeld ?_
    simp only [Act.put, List.getElem_toArray, List.getElem_cons_zero, List.getElem_cons_succ, List.setIfInBounds_toArray, List.set_cons_zero, List.set_cons_succ]
    refine wpAnyH_done (by kernel_rfl) ?_ _
    go_wp2
    go_ret2
    exact ⟨rfl, grow_trans HQ2.out hHeld⟩

/-- What Handles answers of a root that is one. -/
def HdPost (hs : List Nat) (fin : Int) (w : World) (e : Ending) (w' : World) : Prop :=
  ∃ a c, e = .returned (.tuple #[.slice a hs.length c, .int .i64 fin, .int .i64 0]) ∧ w'.ownsRow w.heap.size 3 1 (.slice a hs.length c) hs.length (nats hs) ∧ Below w.heap.size w w'

set_option maxHeartbeats 400000 in
theorem handles_bad {w : World} {v : Value} {mk : Bool} {ct : Int → Nat} {ca : Int → Ce} (V : Vw w v mk ct ca) (h : Int) (K : List Int) (e0 : Int) (he : vRt mk (ct h) (ca h) h = e0) (h0 : e0 ≠ 0) : Calls Tryz.prog 129 #[v, .int .i64 h, .agg (B K)] w fun e w' => e = .returned (.tuple #[.slice none 0 0, .int .i64 0, .int .i64 e0]) ∧ Below w.heap.size w w' := by
  have HR : Hid (∀ w', Below w.heap.size w w' → Calls Tryz.prog 56 #[v, .int .i64 h] w' fun e w'' => e = .returned (.int .i64 e0) ∧ Below w'.heap.size w' w'') := fun w' hb => by
    have := root_any (V.grow hb) h
    rwa [he] at this
  have hb0 : (e0 == 0) = false := by simp [h0]
  clear V he h0
  go_enter Tryz.func129, Tryz.ntmps129
  go_wp2_with (first
    | ((with_reducible refine at_bxd 5 ?_); refine wpList_bx _ rfl _ _ rfl _ rfl ?_; intro w1 b5 hg5 hl5 B5 q5; have HQ5 := hidden q5; clear hg5 hl5 B5 q5)
    | (go_at_call 56; refine (HR.out _ HQ5.out).mono ?_; rintro e w2 ⟨rfl, b2⟩))
  go_ret3
  exact ⟨rfl, grow_trans HQ5.out b2⟩

def sLen : Value → Nat
  | .slice _ n _ => n
  | _ => 0

theorem cat_is {cs : List (Nat × Ce)} {h : Nat} (h1 : 1 ≤ h) : cat cs (h : Int) = ce cs (h - 1) := by
  rw [cat_nat, sdC, if_neg (by omega)]

set_option maxHeartbeats 4000000 in
theorem handles_any {w : World} {v : Value} {cs : List (Nat × Ce)} {pend : List Nat} (V : Vw w v true (cot cs) (cat cs)) (W : Wf cs pend) (h : Nat) (T : Tre) (hT : IsT cs h T) (K : List Int) (hK : Key K) (he : vRt true (cot cs h) (cat cs h) h = 0) : Calls Tryz.prog 129 #[v, .int .i64 (h : Int), .agg (B K)] w (HdPost (T.hs K h) (T.fin K h) w) := by
  have HR : Hid (∀ w', Below w.heap.size w w' → Calls Tryz.prog 56 #[v, .int .i64 (h : Int)] w' fun e w'' => e = .returned (.int .i64 0) ∧ Below w'.heap.size w' w'') := fun w' hb => by
    have := root_any (V.grow hb) (h : Int)
    rwa [he] at this
  have HPS : Hid ((Tryz.prog.info? 24).map (·.size) = some (B K).size) := by show _ = _; rw [B_size, hK.1]; exact size_path
  have HV := hidden V
  have HW := hidden W
  have HK := hidden hK
  have HT := hidden hT
  have HN : Hid ((T.hs K h).length ≤ 256) := by
    show _ ≤ _
    rw [Tre.hs_oth]
    by_cases k : (sdC cs h).kind = 2
    · have := (way_tree W K T h (sdC cs h).dp hT (fun _ => rfl) (by
        match T, hT with
        | .emp, e => exact absurd k (by rw [show h = 0 from e]; show ¬ zc.kind = 2; decide)
        | .lf _ _, ⟨h1, _, h3, _⟩ => rw [sdC, if_neg (by omega)] at k; omega
        | .nd d hl hr L R, hT => 
          have := (nd_ok W hT).dp
          obtain ⟨h1, _, _, h4, _⟩ := hT
          rw [sdC, if_neg (by omega), h4]
          omega)).2.2
      omega
    · have := (way_tree W K T h 0 hT (fun q => absurd q k) (by omega)).2.2
      omega
  have HPost : Hid (∀ a c w', w'.ownsRow w.heap.size 3 1 (.slice a (T.hs K h).length c) (T.hs K h).length (nats (T.hs K h)) → Below w.heap.size w w' → HdPost (T.hs K h) (T.fin K h) w (.returned (.tuple #[.slice a (T.hs K h).length c, .int .i64 (T.fin K h : Int), .int .i64 0])) w') := fun a c w' h1 h2 => ⟨a, c, rfl, h1, h2⟩
  obtain ⟨hh, hhe⟩ : ∃ y : Int, y = (h : Int) := ⟨_, rfl⟩
  rw [← hhe] at HR ⊢
  have HHE := hidden hhe
  clear V W hK hT he hhe
  generalize HE : HdPost (T.hs K h) (T.fin K h) w = P at HPost ⊢
  go_enter Tryz.func129, Tryz.ntmps129
  go_wp2_with (first
    | ((with_reducible refine at_bxd 5 ?_); refine wpList_bx _ rfl _ _ rfl _ rfl ?_; intro w1 b5 hg5 hl5 B5 q5; have HB5 := hidden B5; have HQ5 := hidden q5; have HG5 := hidden hg5; clear hg5 hl5 B5 q5)
    | (go_at_call 56; refine (HR.out _ HQ5.out).mono ?_; rintro e w2 ⟨rfl, b2⟩; have HB52 := hidden (HB5.out.grow b2); have HQ2 := hidden (grow_trans HQ5.out b2); clear b2))
  clear HR HB5 HQ5 HG5
  go_loopw [6, 7] (fun wv ev wr => ∃ (pre : List Nat) (x : Nat) (U : Tre) (a : Option Addr) (n c : Nat), wv = .slice a n c ∧ ev = .int .i64 (x : Int) ∧ Hid (n = pre.length) ∧ Hid (wr.ownsRow w2.heap.size 3 1 (.slice a n c) n (nats pre)) ∧ Hid (IsT cs x U ∧ pre ++ U.hs K x = T.hs K h ∧ U.fin K x = T.fin K h) ∧ Hid (Below w2.heap.size w2 wr)) (fun wv _ _ => 300 - sLen wv)
  case atStart => exact ⟨[], h, T, none, 0, 0, rfl, by rw [HHE.out], rfl, World.ownsRow_nil _ _ _ _, ⟨HT.out, rfl, rfl⟩, Below.refl _ _⟩
  case round =>
    clear HT HHE
    obtain ⟨pre, x, U, a, n, c, rfl, rfl, hn, hO, hU, hB⟩ := hrel
    have HVR := hidden (HV.out.grow (grow_trans HQ2.out hB.out))
    have hlen : n + (U.hs K x).length = (T.hs K h).length := by
      have := congrArg List.length hU.out.2.1
      rw [List.length_append] at this
      rw [hn.out]
      exact this
    have h256 := HN.out
    have HKD : Hid (Calls Tryz.prog 57 #[v, .int .i64 (x : Int)] wr fun e w' => e = .returned (.int .u8 (cat cs (x : Int)).kind) ∧ Below wr.heap.size wr w') := kind_any HVR.out (x : Int)
    have HFin : Hid (U.hs K x = [] → U.fin K x = x → ∀ w', Below wr.heap.size wr w' → P (.returned (.tuple #[.slice a n c, .int .i64 (x : Int), .int .i64 0])) w') := fun e1 e2 w' hb => by
      have q1 := hU.out.2.1
      rw [e1, List.append_nil] at q1
      have q2 := hU.out.2.2
      rw [e2] at q2
      have q3 := hn.out
      have hO' := owR_grow (owR_base hO.out HQ2.out.size) hb
      rw [q3, q1] at hO'
      rw [q3, q1, q2]
      exact HPost.out a c w' hO' (grow_trans (grow_trans HQ2.out hB.out) hb)
    cases U with
    | emp =>
      have hx : x = 0 := hU.out.1
      have HKZ : Hid ((cat cs (x : Int)).kind = 0) := by rw [hx]; rfl
      rw [HKZ.out] at HKD
      have HF := hidden (HFin.out rfl rfl)
      generalize (x : Int) = y at HKD HF ⊢
      clear HFin HKZ hx hU hlen h256 HVR
      go_wp2_with (first
        | (go_at_call 57; refine HKD.out.mono ?_; rintro e w3 ⟨rfl, b3⟩; have HB3 := hidden b3; clear b3))
      go_ret3
      exact HF.out _ HB3.out
    | lf k b =>
      obtain ⟨h1, h2, h3, h4, h5⟩ := hU.out.1
      have HKZ : Hid ((cat cs (x : Int)).kind = 1) := by rw [cat_is h1]; exact h3
      rw [HKZ.out] at HKD
      have HF := hidden (HFin.out rfl rfl)
      generalize (x : Int) = y at HKD HF ⊢
      clear HFin HKZ hU hlen h256 HVR h1 h2 h3 h4 h5
      go_wp2_with (first
        | (go_at_call 57; refine HKD.out.mono ?_; rintro e w3 ⟨rfl, b3⟩; have HB3 := hidden b3; clear b3))
      go_ret3
      exact HF.out _ HB3.out
    | nd d hl hr L R =>
      have hno := nd_ok HW.out hU.out.1
      obtain ⟨h1, h2, h3, h4, h5, h6, h7, h8⟩ := hU.out.1
      have hca := cat_is (cs := cs) h1
      rw [show (cat cs (x : Int)).kind = 2 by rw [hca]; exact h3] at HKD
      have HFK : Hid (∀ w', Below w.heap.size w w' → Calls Tryz.prog 155 #[v, .int .i64 (x : Int), .agg (B K)] w' fun e w'' => e = .returned (.tuple #[.int .i64 ((if kb K d = 1 then hr else hl : Nat) : Int), .int .i64 ((if kb K d = 1 then hl else hr : Nat) : Int)]) ∧ Below w'.heap.size w' w'') := fun w' hb => by
        have := fork_any (HV.out.grow hb) (x : Int) K HK.out (by rw [hca]; exact h3) (by rw [hca, h4]; exact hno.dp)
        rw [hca, h4, h5, h6] at this
        exact this
      have hcut : (Tre.nd d hl hr L R).hs K x = x :: (if kb K d = 1 then R.hs K hr else L.hs K hl) := rfl
      have hfi : (Tre.nd d hl hr L R).fin K x = (if kb K d = 1 then R.fin K hr else L.fin K hl) := rfl
      have HNX : Hid (∃ U', IsT cs (if kb K d = 1 then hr else hl) U' ∧ (pre ++ [x]) ++ U'.hs K (if kb K d = 1 then hr else hl) = T.hs K h ∧ U'.fin K (if kb K d = 1 then hr else hl) = T.fin K h) := by
        have q1 := hU.out.2.1
        have q2 := hU.out.2.2
        rw [hcut] at q1
        rw [hfi] at q2
        show ∃ _, _
        by_cases q : kb K d = 1
        · rw [if_pos q] at q1 q2 ⊢
          exact ⟨R, h8, by rw [List.append_assoc]; exact q1, q2⟩
        · rw [if_neg q] at q1 q2 ⊢
          exact ⟨L, h7, by rw [List.append_assoc]; exact q1, q2⟩
      have hn256 : n + 1 ≤ 256 := by
        rw [hcut, List.length_cons] at hlen
        omega
      generalize (if kb K d = 1 then hr else hl : Nat) = m1 at HFK HNX
      generalize (if kb K d = 1 then hl else hr : Nat) = m2 at HFK
      obtain ⟨y, hy⟩ : ∃ y : Int, y = (x : Int) := ⟨_, rfl⟩
      rw [← hy] at HKD HFK
      rw [← hy]
      have HY := hidden hy
      have H256 := hidden hn256
      clear HFin hU hlen h256 HVR h1 h2 h3 h4 h5 h6 h7 h8 hca hcut hfi hno hy hn256
      go_wp2_with (first
        | (go_at_call 57; refine HKD.out.mono ?_; rintro e w3 ⟨rfl, b3⟩; have HB3 := hidden b3; have HO3 := hidden ((owR_grow (owR_grow hO.out b3) (grow_alloc w3 (.cells #[.int .i64 y] 3)))); clear b3)
        | (at_builtin; refine wpList_appB _ rfl _ _ _ rfl w2.heap.size 3 1 8 Tryz.underlying39 info_nat (by omega) _ n (nats pre) rfl HO3.out w3.heap.size [Value.int .i64 y] rfl (Blk.new _ _ _) rfl (by intro u hu; simp at hu; subst hu; rfl) (by have := H256.out; simp only [maxLen]; omega) (by have := H256.out; omega) (Nat.le_trans hB.out.size (Nat.le_trans HB3.out.size (by simp))) ?_; intro a4 c4 w4 o4 g4; have HO4 := hidden o4; have HB4 := hidden (owR_below (grow_trans (grow_trans hB.out HB3.out) (grow_alloc w3 (.cells #[.int .i64 y] 3))) HO3.out (Nat.le_refl _) g4); clear o4 g4)
        | ((with_reducible refine at_ldd 30 5 ?_); refine wpList_ld _ rfl _ _ rfl b5 _ rfl (HB52.out.grow HB4.out) _ _ Tryz.underlying24 HPS.out ?_)
        | (go_at_call 155; refine (HFK.out _ (grow_trans HQ2.out HB4.out)).mono ?_; rintro e w5 ⟨rfl, b5'⟩; have HB5 := hidden b5'; clear b5'))
      obtain ⟨U', hU1, hU2, hU3⟩ := HNX.out
      have ho5 := owR_grow HO4.out HB5.out
      rw [HY.out, ← nats_snoc] at ho5
      exact ⟨⟨pre ++ [x], m1, U', a4, n + 1, c4, rfl, rfl, by rw [List.length_append, List.length_singleton, ← hn.out]; exact rfl, ho5, ⟨hU1, hU2, hU3⟩, grow_trans HB4.out HB5.out⟩, by have := H256.out; simp only [sLen]; omega⟩

end Go.Proofs.YtgfdgjkbcdmboabGreatDoor
