/- list by definition: how many entries of a tree stand ahead of a key, told on the way down; that a tree's entries rise; a stack of trees. No program in this text. -/
import Derived.Test.YtnnmfgnommbmkaaGreatDoorLa01
import Derived.Test.YtnnmfgnommbmkaaGreatDoorLa09
import Derived.Test.YtnnmfgnommbmkaaGreatDoorLa07
import Derived.Test.YtnnmfgnommbmkaaGreatDoorLa08
import Derived.Test.YtnnmfgnommbmkaaGreatDoorLa02
namespace Go.Proofs.YtnnmfgnommbmkaaGreatDoor
set_option maxRecDepth 20000
open Go.RowKit

def Tre.rk (K : List Int) : Tre → Nat
  | .emp => 0
  | .lf k _ => if cmp k K < 0 then 1 else 0
  | .nd d _ _ l r => if kb K d = 1 then l.ents.length + r.rk K else l.rk K

def ahd (K : List Int) (l : List Ent) : Nat := (l.filter fun e => decide (cmp e.1 K < 0)).length

theorem ahd_app (K : List Int) (a b : List Ent) : ahd K (a ++ b) = ahd K a + ahd K b := by
  unfold ahd
  rw [List.filter_append, List.length_append]
theorem ahd_all (K : List Int) (l : List Ent) (h : ∀ e ∈ l, cmp e.1 K < 0) : ahd K l = l.length := by
  unfold ahd
  rw [List.filter_eq_self.2 (fun e he => by simpa using h e he)]
theorem ahd_none (K : List Int) (l : List Ent) (h : ∀ e ∈ l, ¬ cmp e.1 K < 0) : ahd K l = 0 := by
  unfold ahd
  rw [List.filter_eq_nil_iff.2 (fun e he => by simpa using h e he)]
  rfl
theorem ahd_le (K : List Int) (l : List Ent) : ahd K l ≤ l.length := List.length_filter_le _ _
theorem rk_ahd {cs : List (Nat × Ce)} {pend : List Nat} (w : Wf cs pend) (K : List Int) (hK : Key K) : ∀ (T : Tre) (h d : Nat), IsT cs h T → ((sdC cs h).kind = 2 → (sdC cs h).dp = d) → (∀ e ∈ T.ents, ∀ j, j < d → kb e.1 j = kb K j) → T.rk K = ahd K T.ents
  | .emp, _, _, _, _, _ => rfl
  | .lf k b, _, _, _, _, _ => by
    show (if cmp k K < 0 then 1 else 0) = ahd K [(k, b)]
    unfold ahd
    by_cases q : cmp k K < 0
    · simp [q]
    · simp [q]
  | .nd d hl hr L R, h, d', hT, hd, hs => by
    have n := nd_ok w hT
    have ok := tree_ok w _ h hT
    obtain ⟨h1, h2, h3, h4, h5, h6, h7, h8⟩ := hT
    have es : sdC cs h = ce cs (h - 1) := if_neg (by omega)
    obtain rfl : d = d' := by
      rw [es] at hd
      rw [← h4]
      exact hd h3
    have inL : ∀ e ∈ L.ents, e ∈ (Tre.nd d hl hr L R).ents := fun e he => List.mem_append.2 (.inl he)
    have inR : ∀ e ∈ R.ents, e ∈ (Tre.nd d hl hr L R).ents := fun e he => List.mem_append.2 (.inr he)
    have hdp := n.dp
    show (if kb K d = 1 then L.ents.length + R.rk K else L.rk K) = ahd K (L.ents ++ R.ents)
    rw [ahd_app]
    rcases kb_two K d with q | q
    · have e1 := rk_ahd w K hK L hl (d + 1) h7 n.kl (fun e he j hj => by
        rcases Nat.lt_or_ge j d with hj' | hj'
        · exact hs e (inL e he) j hj'
        · obtain rfl : j = d := by omega
          rw [n.bL e he, q])
      have e2 := ahd_none K R.ents (fun e he => by
        have ha : Ahead K e.1 := ⟨d, hdp, fun j hj => (hs e (inR e he) j hj).symm, q, n.bR e he⟩
        exact fun hc => ha.not ((cmp_lt (ok.ent e (inR e he)).1 hK).1 hc))
      rw [if_neg (by omega), e1, e2, Nat.add_zero]
    · have e1 := rk_ahd w K hK R hr (d + 1) h8 n.kr (fun e he j hj => by
        rcases Nat.lt_or_ge j d with hj' | hj'
        · exact hs e (inR e he) j hj'
        · obtain rfl : j = d := by omega
          rw [n.bR e he, q])
      have e2 := ahd_all K L.ents (fun e he => (cmp_lt (ok.ent e (inL e he)).1 hK).2 ⟨d, hdp, fun j hj => hs e (inL e he) j hj, n.bL e he, q⟩)
      rw [if_pos q, e1, e2]

theorem rk_root {cs : List (Nat × Ce)} {pend : List Nat} (w : Wf cs pend) (K : List Int) (hK : Key K) {T : Tre} {h : Nat} (hT : IsT cs h T) (hd : (sdC cs h).kind = 2 → (sdC cs h).dp = 0) : T.rk K = ahd K T.ents := rk_ahd w K hK T h 0 hT hd (fun _ _ j hj => by omega)

theorem ents_rise {cs : List (Nat × Ce)} {pend : List Nat} (w : Wf cs pend) : ∀ (T : Tre) (h : Nat), IsT cs h T → T.ents.Pairwise fun a b => Ahead a.1 b.1
  | .emp, _, _ => List.Pairwise.nil
  | .lf _ _, _, _ => List.pairwise_singleton _ _
  | .nd d hl hr L R, h, hT => by
    have n := nd_ok w hT
    have ok := tree_ok w _ h hT
    obtain ⟨h1, h2, h3, h4, h5, h6, h7, h8⟩ := hT
    have hdp := n.dp
    have sh := ok.share d (by omega) (fun _ => by omega)
    refine List.pairwise_append.2 ⟨ents_rise w L hl h7, ents_rise w R hr h8, fun a ha b hb => ⟨d, hdp, fun j hj => ?_, n.bL a ha, n.bR b hb⟩⟩
    rw [sh a (List.mem_append.2 (.inl ha)) j hj, sh b (List.mem_append.2 (.inr hb)) j hj]

theorem Tre.lvs_len : ∀ (T : Tre) (h : Nat), (T.lvs h).length = T.ents.length
  | .emp, _ => rfl
  | .lf _ _, _ => rfl
  | .nd _ hl hr L R, _ => by
    show (L.lvs hl ++ R.lvs hr).length = (L.ents ++ R.ents).length
    rw [List.length_append, List.length_append, Tre.lvs_len L hl, Tre.lvs_len R hr]

def stL (ps : List (Nat × Tre)) : List Nat := ps.flatMap fun p => p.2.lvs p.1

theorem stL_cons (h : Nat) (T : Tre) (ps : List (Nat × Tre)) : stL ((h, T) :: ps) = T.lvs h ++ stL ps := rfl
theorem stL_nd (h d hl hr : Nat) (L R : Tre) (ps : List (Nat × Tre)) : stL ((h, .nd d hl hr L R) :: ps) = stL ((hl, L) :: (hr, R) :: ps) := by
  simp [stL, Tre.lvs]
theorem stL_skip (h : Nat) (T : Tre) (ps : List (Nat × Tre)) (o : Nat) (ho : T.ents.length ≤ o) : (stL ((h, T) :: ps)).drop o = (stL ps).drop (o - T.ents.length) := by
  have e := Tre.lvs_len T h
  rw [stL_cons, List.drop_append, List.drop_eq_nil_of_le (by omega), List.nil_append, e]

end Go.Proofs.YtnnmfgnommbmkaaGreatDoor

namespace Go.Proofs.YtnnmfgnommbmkaaGreatDoor
set_option maxRecDepth 20000
open Go.RowKit

def Th (z : List Value) : Prop := z.length = 71 ∧ ∀ u ∈ z, u.oneCell' = true
def zcl : List Value := List.replicate 32 (.int .u8 0) ++ (.int .u8 0 :: .int .i64 0 :: .int .i64 0 :: (List.replicate 32 (.int .u8 0) ++ [.slice none 0 0, .int .i64 0, .int .i64 0, .int .i64 0]))
theorem zcl_th : Th zcl := ⟨rfl, fun u hu => List.all_eq_true.1 (show zcl.all (·.oneCell') = true from rfl) u hu⟩

structure SmC (w : World) (g : Nat) (vp vf : Value) (room : Nat) (ps : List Pl) (fr : List Nat) : Prop where
  blk : Blk w g 113 #[.pointer (some ⟨g, 0, none⟩), .int .i64 (room : Int), vp, vf]
  pls : Lst w 148 (71 + 1) vp ps.length (flatS ps)
  frs : Lst w 3 1 vf fr.length (nats fr)
  wid : Wid 71 ps

structure SlC (w : World) (g : Nat) (vp vf : Value) (room : Nat) (ps : List Pl) (fr : List Nat) : Prop extends SmC w g vp vf room ps fr where
  inv : Inv room ps fr

theorem SmC.mod {w w' : World} {g : Nat} {vp vf : Value} {room : Nat} {ps : List Pl} {fr : List Nat} {S : List Nat} (h : SmC w g vp vf room ps fr) (m : Mod S w w') (hn : ∀ k ∈ slB g vp vf, k ∉ S) : SmC w' g vp vf room ps fr :=
  ⟨h.blk.mod m (hn g (by simp [slB])), lst_mod h.pls m (fun k hk => hn k (by simp [slB, hk])), lst_mod h.frs m (fun k hk => hn k (by simp [slB, hk])), h.wid⟩

theorem SlC.mod {w w' : World} {g : Nat} {vp vf : Value} {room : Nat} {ps : List Pl} {fr : List Nat} {S : List Nat} (h : SlC w g vp vf room ps fr) (m : Mod S w w') (hn : ∀ k ∈ slB g vp vf, k ∉ S) : SlC w' g vp vf room ps fr := ⟨h.toSmC.mod m hn, h.inv⟩

theorem info_plC : ∃ i z, Tryz.prog.info? 148 = some i ∧ i.zero = some z ∧ i.size = 71 + 1 ∧ i.bytes = 144 ∧ z.cells.size = 71 + 1 := ⟨_, _, rfl, rfl, rfl, rfl, rfl⟩

theorem size_plC : (Tryz.prog.info? 148).map (·.size) = some (71 + 1) := by kernel_rfl

set_option maxHeartbeats 400000 in
theorem new_badC (room : Int) (w : World) (h : ¬ (1 ≤ room ∧ room ≤ 65536)) : Calls Tryz.prog 37 #[.int .i64 room] w fun e w' => e = .returned (.tuple #[.pointer none, .int .i64 2]) ∧ w' = w := by
  by_cases h1 : room < 1
  · go_enter Tryz.func37, Tryz.ntmps37
    go_wp2
    go_ret2
    exact ⟨rfl, rfl⟩
  · have h2 : 65536 < room := by omega
    clear h
    go_enter Tryz.func37, Tryz.ntmps37
    go_wp2
    go_ret2
    exact ⟨rfl, rfl⟩

set_option maxHeartbeats 400000 in
theorem new_okC (room : Nat) (w : World) (h1 : 1 ≤ room) (h2 : room ≤ 65536) : Calls Tryz.prog 37 #[.int .i64 (room : Int)] w fun e w' => ∃ g, e = .returned (.tuple #[.pointer (some ⟨g, 0, none⟩), .int .i64 0]) ∧ w.heap.size ≤ g ∧ SlC w' g (.slice none 0 0) (.slice none 0 0) room [] [] ∧ Below w.heap.size w w' := by
  have i1 : ¬ (room : Int) < 1 := by omega
  have i2 : ¬ 65536 < (room : Int) := by omega
  go_enter Tryz.func37, Tryz.ntmps37
  go_wp2
  go_ret2
  exact ⟨w.heap.size, rfl, Nat.le_refl _, ⟨⟨Blk.new _ _ _, World.ownsRow_nil _ _ _ _, World.ownsRow_nil _ _ _ _, Wid.nil _⟩, Inv.new h1 h2⟩, grow_alloc _ _⟩

def NoC (w : World) (v : Value) : Prop := v = .pointer none ∨ ∃ g, v = .pointer (some ⟨g, 0, none⟩) ∧ w.cell? ⟨g, 0, none⟩ = some (.pointer none)

set_option maxHeartbeats 400000 in
theorem made_okC (g : Nat) (w : World) (hc : w.cell? ⟨g, 0, none⟩ = some (.pointer (some ⟨g, 0, none⟩))) : Calls Tryz.prog 115 #[.pointer (some ⟨g, 0, none⟩)] w fun e w' => e = .returned (.bool true) ∧ w' = w := by
  obtain ⟨j, hj⟩ : ∃ j, Tryz.prog.info? 113 = some j := ⟨_, rfl⟩
  have hq := fun a => run_eql_ptr_same (P := Tryz.prog) w a Tryz.underlying77 hj
  clear hj
  go_enter Tryz.func115, Tryz.ntmps115
  go_wp2
  go_ret
  exact ⟨rfl, rfl⟩

theorem SmC.c0 {w : World} {g : Nat} {vp vf : Value} {room : Nat} {ps : List Pl} {fr : List Nat} (h : SmC w g vp vf room ps fr) : w.cell? ⟨g, 0, none⟩ = some (.pointer (some ⟨g, 0, none⟩)) := by rw [h.blk.cell]; rfl
theorem SmC.c1 {w : World} {g : Nat} {vp vf : Value} {room : Nat} {ps : List Pl} {fr : List Nat} (h : SmC w g vp vf room ps fr) : w.cell? ⟨g, 1, none⟩ = some (.int .i64 (room : Int)) := by rw [h.blk.cell]; rfl
theorem SmC.c2 {w : World} {g : Nat} {vp vf : Value} {room : Nat} {ps : List Pl} {fr : List Nat} (h : SmC w g vp vf room ps fr) : w.cell? ⟨g, 2, none⟩ = some vp := by rw [h.blk.cell]; rfl
theorem SmC.c3 {w : World} {g : Nat} {vp vf : Value} {room : Nat} {ps : List Pl} {fr : List Nat} (h : SmC w g vp vf room ps fr) : w.cell? ⟨g, 3, none⟩ = some vf := by rw [h.blk.cell]; rfl
theorem SmC.count {w : World} {g gp n c : Nat} {vf : Value} {room : Nat} {ps : List Pl} {fr : List Nat} (h : SmC w g (.slice (some ⟨gp, 0, none⟩) n c) vf room ps fr) (i : Nat) (hi : i < ps.length) : w.cell? ⟨gp, i * (71 + 1), none⟩ = some (.int .i64 (cnt ps i : Int)) := by
  have hp := h.pls
  obtain rfl : n = ps.length := by
    obtain ⟨_, _, e⟩ := lst_slice hp
    injection e
  rw [lst_cell hp _ (by have := Nat.mul_le_mul_right (71 + 1) (show i + 1 ≤ ps.length from hi); rw [Nat.add_mul] at this; omega)]
  exact flatS_count h.wid i hi

set_option maxHeartbeats 1000000 in
theorem at_badC (g : Nat) (vp vf : Value) (room : Nat) (ps : List Pl) (fr : List Nat) (slot : Int) (w : World) (h : SlC w g vp vf room ps fr) (hv : Vac ps slot) : Calls Tryz.prog 99 #[.pointer (some ⟨g, 0, none⟩), .int .i64 slot] w fun e w' => e = .returned (.tuple #[.int .i64 0, .int .i64 7]) ∧ w' = w := by
  have c0 := h.c0
  have c2 := h.c2
  have HS := hidden h
  obtain ⟨a, c, rfl⟩ := lst_slice h.pls
  by_cases h1 : slot < 1
  · clear h hv
    go_enter Tryz.func99, Tryz.ntmps99
    go_wp2_with (go_at_call 115; refine (made_okC g _ c0).mono ?_; rintro e w' ⟨rfl, rfl⟩)
    go_ret2
    exact ⟨rfl, rfl⟩
  · by_cases h2 : (ps.length : Int) < slot
    · clear h hv
      go_enter Tryz.func99, Tryz.ntmps99
      go_wp2_with (go_at_call 115; refine (made_okC g _ c0).mono ?_; rintro e w' ⟨rfl, rfl⟩)
      go_ret2
      exact ⟨rfl, rfl⟩
    · obtain ⟨i, hi⟩ : ∃ i : Nat, slot - 1 = (i : Int) := ⟨(slot - 1).toNat, by omega⟩
      have hil : i < ps.length := by omega
      have hc := hv i (by omega)
      obtain ⟨gp, c', e, _⟩ := lst_pos h.pls (by omega)
      injection e with e1 _ e3
      subst e1
      subst e3
      have c4 := h.count i hil
      rw [hc] at c4
      have hw : wrap64 (i : Int) = i := Go.IntWalk.wrap64_in _ (by have := h.inv.len; have := h.inv.r2; omega)
      have j0 : (0 : Int) ≤ (i : Int) := by omega
      have j1 : (i : Int) < (ps.length : Int) := by omega
      clear h hv hc
      go_enter Tryz.func99, Tryz.ntmps99
      go_wp2_with (go_at_call 115; refine (made_okC g _ c0).mono ?_; rintro e w' ⟨rfl, rfl⟩)
      go_ret2
      exact ⟨rfl, rfl⟩

theorem SlC.at {w : World} {g : Nat} {vp vf : Value} {room : Nat} {ps : List Pl} {fr : List Nat} (h : SlC w g vp vf room ps fr) (i : Nat) (hi : 0 < cnt ps i) : ∃ gp c, vp = .slice (some ⟨gp, 0, none⟩) ps.length c ∧ w.cell? ⟨gp, i * (71 + 1), none⟩ = some (.int .i64 (cnt ps i : Int)) ∧ i < ps.length ∧ (0 : Int) ≤ (i : Int) ∧ (i : Int) < (ps.length : Int) ∧ wrap64 (i : Int) = i ∧ ps.length ≤ 65536 := by
  have hl := cnt_lt hi
  obtain ⟨gp, c, rfl, _⟩ := lst_pos h.pls (by omega)
  have h1 := h.inv.len
  have h2 := h.inv.r2
  exact ⟨gp, c, rfl, h.count i hl, hl, by omega, by omega, Go.IntWalk.wrap64_in _ (by omega), by omega⟩

set_option maxHeartbeats 1000000 in
theorem at_okC (g : Nat) (vp vf : Value) (room : Nat) (ps : List Pl) (fr : List Nat) (slot : Int) (i : Nat) (w : World) (h : SlC w g vp vf room ps fr) (hs : slot = (i : Int) + 1) (hi : 0 < cnt ps i) : Calls Tryz.prog 99 #[.pointer (some ⟨g, 0, none⟩), .int .i64 slot] w fun e w' => e = .returned (.tuple #[.int .i64 (i : Int), .int .i64 0]) ∧ w' = w := by
  have c0 := h.c0
  have c2 := h.c2
  obtain ⟨gp, c, rfl, c4, hil, j0, j1, hw, hm⟩ := h.at i hi
  have hne : ((cnt ps i : Int) == 0) = false := by simp; omega
  generalize cnt ps i = q at c4 hne
  have h1 : ¬ slot < 1 := by omega
  have h2 : ¬ (ps.length : Int) < slot := by omega
  have h3 : slot - 1 = (i : Int) := by omega
  clear h hs hi
  go_enter Tryz.func99, Tryz.ntmps99
  go_wp2_with (go_at_call 115; refine (made_okC g _ c0).mono ?_; rintro e w' ⟨rfl, rfl⟩)
  go_ret2
  exact ⟨rfl, rfl⟩

set_option maxHeartbeats 400000 in
theorem count_badC (g : Nat) (vp vf : Value) (room : Nat) (ps : List Pl) (fr : List Nat) (slot : Int) (w : World) (h : SlC w g vp vf room ps fr) (hv : Vac ps slot) : Calls Tryz.prog 100 #[.pointer (some ⟨g, 0, none⟩), .int .i64 slot] w fun e w' => e = .returned (.int .i64 0) ∧ w' = w := by
  have HS := hidden h
  have HV := hidden hv
  clear h hv
  go_enter Tryz.func100, Tryz.ntmps100
  go_wp2_with (go_at_call 99; refine (at_badC g vp vf room ps fr slot _ HS.out HV.out).mono ?_; rintro e w' ⟨rfl, rfl⟩)
  go_ret
  exact ⟨rfl, rfl⟩

set_option maxHeartbeats 400000 in
theorem count_okC (g : Nat) (vp vf : Value) (room : Nat) (ps : List Pl) (fr : List Nat) (slot : Int) (i : Nat) (w : World) (h : SlC w g vp vf room ps fr) (hs : slot = (i : Int) + 1) (hi : 0 < cnt ps i) : Calls Tryz.prog 100 #[.pointer (some ⟨g, 0, none⟩), .int .i64 slot] w fun e w' => e = .returned (.int .i64 (cnt ps i : Int)) ∧ w' = w := by
  have HS := hidden h
  have HI := hidden hi
  have HE := hidden hs
  have c2 := h.c2
  obtain ⟨gp, c, rfl, c4, hil, j0, j1, hw, hm⟩ := h.at i hi
  obtain ⟨q, hq⟩ : ∃ q, q = cnt ps i := ⟨_, rfl⟩
  rw [← hq] at c4 ⊢
  have HQ := hidden hq
  clear h hs hi hq
  go_enter Tryz.func100, Tryz.ntmps100
  go_wp2_with (go_at_call 99; refine (at_okC g _ vf room ps fr slot i _ HS.out HE.out HI.out).mono ?_; rintro e w' ⟨rfl, rfl⟩)
  go_ret
  exact ⟨rfl, rfl⟩

set_option maxHeartbeats 400000 in
theorem room_okC (g : Nat) (vp vf : Value) (room : Nat) (ps : List Pl) (fr : List Nat) (w : World) (h : SlC w g vp vf room ps fr) : Calls Tryz.prog 90 #[.pointer (some ⟨g, 0, none⟩)] w fun e w' => e = .returned (.int .i64 (room : Int)) ∧ w' = w := by
  have c0 := h.c0
  have c1 := h.c1
  clear h
  go_enter Tryz.func90, Tryz.ntmps90
  go_wp2_with (go_at_call 115; refine (made_okC g _ c0).mono ?_; rintro e w' ⟨rfl, rfl⟩)
  go_ret
  exact ⟨rfl, rfl⟩

set_option maxHeartbeats 1000000 in
theorem len_okC (g : Nat) (vp vf : Value) (room : Nat) (ps : List Pl) (fr : List Nat) (w : World) (h : SlC w g vp vf room ps fr) : Calls Tryz.prog 89 #[.pointer (some ⟨g, 0, none⟩)] w fun e w' => e = .returned (.int .i64 (occs ps : Int)) ∧ Below w.heap.size w w' := by
  have c0 := h.c0
  have c2 := h.c2
  have c3 := h.c3
  obtain ⟨a, c, rfl⟩ := lst_slice h.pls
  obtain ⟨a', c', rfl⟩ := lst_slice h.frs
  have h1 := h.inv.len
  have h2 := h.inv.r2
  have h3 := h.inv.sum
  have HW : Hid (wrap64 ((ps.length : Int) - (fr.length : Int)) = (occs ps : Int)) := by
    show _ = _
    rw [Go.IntWalk.wrap64_in _ (by omega)]
    omega
  clear h h1 h2 h3
  go_enter Tryz.func89, Tryz.ntmps89
  go_wp2_with (go_at_call 115; refine (made_okC g _ c0).mono ?_; rintro e w' ⟨rfl, rfl⟩)
  go_quiet (fail)
  go_wp2
  go_ret
  exact ⟨by rw [← HW.out]; rfl, below_drewN (Below.refl _ _) _⟩

end Go.Proofs.YtnnmfgnommbmkaaGreatDoor

namespace Go.Proofs.YtnnmfgnommbmkaaGreatDoor
set_option maxRecDepth 20000
open Go.RowKit

def TurnC (w : World) (g : Nat) (S : List Nat) (room : Nat) (ps : List Pl) (fr : List Nat) (w' : World) : Prop := ∃ vp vf, SlC w' g vp vf room ps fr ∧ Mod S w w' ∧ New S w (slB g vp vf)

theorem tne1C : (148 : Nat) ≠ 113 := by decide

theorem tne2C : (3 : Nat) ≠ 113 := by decide

theorem tne3C : (148 : Nat) ≠ 3 := by decide

theorem mk2C {w : World} {g : Nat} {p vp vf vp' : Value} {room : Nat} {ps : List Pl} {fr : List Nat} (hb : Blk w g 113 #[p, .int .i64 (room : Int), vp, vf]) (he : p = .pointer (some ⟨g, 0, none⟩)) (hp : Lst w 148 (71 + 1) vp' ps.length (flatS ps)) (hf : Lst w 3 1 vf fr.length (nats fr)) (hw : Wid 71 ps) : SmC (w.setCell ⟨g, 2, none⟩ vp') g vp' vf room ps fr := by
  have m : Mod [g] w (w.setCell ⟨g, 2, none⟩ vp') := Mod.setCell w g 2 vp' (by simp)
  refine ⟨?_, lst_mod hp m (fun k hk e => ?_), lst_mod hf m (fun k hk e => ?_), hw⟩
  · subst he
    exact hb.set 2 vp'
  · obtain rfl : k = g := by simpa using e
    exact lst_blk_ne hp hb tne1C hk
  · obtain rfl : k = g := by simpa using e
    exact lst_blk_ne hf hb tne2C hk

theorem mk3C {w : World} {g : Nat} {p vp vf vf' : Value} {room : Nat} {ps : List Pl} {fr : List Nat} (hb : Blk w g 113 #[p, .int .i64 (room : Int), vp, vf]) (he : p = .pointer (some ⟨g, 0, none⟩)) (hp : Lst w 148 (71 + 1) vp ps.length (flatS ps)) (hf : Lst w 3 1 vf' fr.length (nats fr)) (hw : Wid 71 ps) : SmC (w.setCell ⟨g, 3, none⟩ vf') g vp vf' room ps fr := by
  have m : Mod [g] w (w.setCell ⟨g, 3, none⟩ vf') := Mod.setCell w g 3 vf' (by simp)
  refine ⟨?_, lst_mod hp m (fun k hk e => ?_), lst_mod hf m (fun k hk e => ?_), hw⟩
  · subst he
    exact hb.set 3 vf'
  · obtain rfl : k = g := by simpa using e
    exact lst_blk_ne hp hb tne1C hk
  · obtain rfl : k = g := by simpa using e
    exact lst_blk_ne hf hb tne2C hk

theorem SmC.over {w w' : World} {g gp n c : Nat} {vf : Value} {room : Nat} {ps ps' : List Pl} {fr : List Nat} (h : SmC w g (.slice (some ⟨gp, 0, none⟩) n c) vf room ps fr) (m : Mod [gp] w w') (hp : Lst w' 148 (71 + 1) (.slice (some ⟨gp, 0, none⟩) n c) ps'.length (flatS ps')) (hw : Wid 71 ps') : SmC w' g (.slice (some ⟨gp, 0, none⟩) n c) vf room ps' fr := by
  refine ⟨h.blk.mod m ?_, hp, lst_mod h.frs m (fun k hk e => ?_), hw⟩
  · intro e
    obtain rfl : g = gp := by simpa using e
    exact lst_blk_ne h.pls h.blk tne1C rfl
  · obtain rfl : k = gp := by simpa using e
    exact lst_ne h.pls h.frs tne3C k rfl hk

theorem SmC.free {w : World} {g gf n c : Nat} {vp : Value} {room : Nat} {ps : List Pl} {fr : List Nat} (h : SmC w g vp (.slice (some ⟨gf, 0, none⟩) n c) room ps fr) (i : Nat) (hi : i < fr.length) : w.cell? ⟨gf, i, none⟩ = some (.int .i64 (fr.getD i 0 : Nat)) := by
  have hp := h.frs
  obtain rfl : n = fr.length := by
    obtain ⟨_, _, e⟩ := lst_slice hp
    injection e
  rw [lst_cell hp _ (by omega)]
  exact nats_get fr i hi

set_option maxHeartbeats 1000000 in
theorem vac_freeC (g : Nat) (vp vf : Value) (room : Nat) (ps : List Pl) (fr : List Nat) (s : Nat) (w : World) (h : SmC w g vp vf room ps (fr ++ [s])) (hl : fr.length ≤ 65536) : Calls Tryz.prog 116 #[.pointer (some ⟨g, 0, none⟩)] w fun e w' => ∃ vf', e = .returned (.tuple #[.int .i64 (s : Int), .bool true]) ∧ SmC w' g vp vf' room ps fr ∧ Mod [g] w w' ∧ vf'.ownBlock = vf.ownBlock := by
  have c3 := h.c3
  have f3 := h.blk.frozen 3
  have HS := hidden h
  obtain ⟨gf, c, rfl, hcap⟩ := lst_pos h.frs (by simp)
  have c4 := h.free fr.length (by simp)
  rw [show (fr ++ [s]).getD fr.length 0 = s by simp [List.getD]] at c4
  rw [List.length_append, List.length_singleton] at c3 hcap
  have j0 : (0 : Int) ≤ (fr.length : Int) := by omega
  have j1 : (fr.length : Int) < ((fr.length + 1 : Nat) : Int) := by omega
  have j2 : (fr.length : Int) ≤ (c : Int) := by omega
  clear h
  go_enter Tryz.func116, Tryz.ntmps116
  go_wp2
  go_ret2
  have h := HS.out
  have hc := lst_cut (m := fr.length) h.frs (by simp)
  rw [Nat.mul_one, nats_take, List.take_left] at hc
  exact ⟨_, rfl, mk3C h.blk rfl h.pls hc h.wid, Mod.setCell _ _ _ _ (by simp), rfl⟩

set_option maxHeartbeats 1000000 in
theorem vac_fullC (g : Nat) (vp vf : Value) (room : Nat) (ps : List Pl) (w : World) (h : SmC w g vp vf room ps []) (hl : ps.length = room) : Calls Tryz.prog 116 #[.pointer (some ⟨g, 0, none⟩)] w fun e w' => e = .returned (.tuple #[.int .i64 0, .bool false]) ∧ Below w.heap.size w w' := by
  have c1 := h.c1
  have c2 := h.c2
  have c3 := h.c3
  obtain ⟨a, c, rfl⟩ := lst_slice h.frs
  obtain ⟨a', c', rfl⟩ := lst_slice h.pls
  subst hl
  clear h
  go_enter Tryz.func116, Tryz.ntmps116
  go_wp2
  go_quiet (fail)
  go_wp2
  go_ret2
  exact ⟨rfl, below_drewN (Below.refl _ _) _⟩

theorem zoneC : ∀ u ∈ (Value.int .i64 0 :: zcl), u.oneCell' = true := fun u hu => List.all_eq_true.1 (show (Value.int .i64 0 :: zcl).all (·.oneCell') = true from rfl) u hu

theorem xoneC (z : List Value) (hz : Th z) (c : Int) : ∀ u ∈ (Value.int .i64 c :: z), u.oneCell' = true := fun u hu => by
  rcases List.mem_cons.1 hu with rfl | hu
  · rfl
  · exact hz.2 u hu

theorem xlenC (z : List Value) (hz : Th z) : (z : List Value).length = 71 := hz.1

set_option maxHeartbeats 1000000 in
theorem vac_newC (g : Nat) (vp vf : Value) (room : Nat) (ps : List Pl) (w : World) (h : SmC w g vp vf room ps []) (hl : ps.length < room) (hr : room ≤ 65536) : Calls Tryz.prog 116 #[.pointer (some ⟨g, 0, none⟩)] w fun e w' => ∃ vp', e = .returned (.tuple #[.int .i64 ((ps.length + 1 : Nat) : Int), .bool true]) ∧ SmC w' g vp' vf room (ps ++ [(0, zcl)]) [] ∧ Mod (slB g vp vf) w w' ∧ WhereL w vp vp' := by
  have c1 := h.c1
  have c2 := h.c2
  have c3 := h.c3
  have f2 := h.blk.frozen 2
  have HS := hidden h
  obtain ⟨a, c, rfl⟩ := lst_slice h.frs
  obtain ⟨a', c', rfl⟩ := lst_slice h.pls
  have hne : ((ps.length : Int) == (room : Int)) = false := by simp; omega
  clear h
  go_enter Tryz.func116, Tryz.ntmps116
  go_wp2
  go_quiet (fail)
  obtain ⟨w1, hw1⟩ : ∃ x, x = w.drewN nq := ⟨_, rfl⟩
  have HM : Hid (Mod [] w w1) := by rw [hw1]; exact Mod.drewN _ _ _
  have HS1 : Hid (SmC w1 g (.slice a' ps.length c') (.slice a 0 c) room ps []) := HS.out.mod HM.out (fun _ _ h => by cases h)
  rw [← hw1]
  clear c1 c2 c3 f2 HS hw1
  have c2 := HS1.out.c2
  have f2 := HS1.out.blk.frozen 2
  have HL : Hid (ps.length + 1 ≤ 65536) := by show ps.length + 1 ≤ 65536; omega
  clear hl hr
  go_wp2_with (at_builtin; refine wpList_appL _ rfl _ _ _ rfl 148 (71 + 1) 144 Tryz.underlying111 info_plC (by omega) _ ps.length (flatS ps) rfl (lst_grow HS1.out.pls (grow_alloc _ _)) w1.heap.size (Value.int .i64 0 :: zcl) rfl (Blk.new _ _ _) rfl zoneC (by have := HL.out; simp only [maxLen]; omega) (by have := HL.out; omega) ?_; intro v' w2 h2 g2 wh; obtain ⟨a2, c4, rfl⟩ := lst_slice h2; have hb2 := (HS1.out.blk.grow (grow_alloc w1 (.cells (Value.int .i64 0 :: zcl).toArray 148))).of_block (g2.block g (by have := HS1.out.blk.lt; simp; omega) (fun e => lst_blk_ne HS1.out.pls HS1.out.blk tne1C e.symm)); have c5 : w2.cell? ⟨g, 2, none⟩ = some (.slice a' ps.length c') := (by rw [hb2.cell]; rfl); have f5 := hb2.frozen 2)
  go_ret2
  have hpl : Lst w2 148 (71 + 1) (.slice a2 (ps.length + 1) c4) (ps ++ [(0, zcl)]).length (flatS (ps ++ [(0, zcl)])) := by
    rw [flatS_snoc, List.length_append, List.length_singleton]
    exact h2
  have hwd : Wid 71 (ps ++ [(0, zcl)]) := HS1.out.wid.snoc 0 _ rfl (fun u hu => zoneC u (by simp only [List.mem_cons]; exact .inr (by simpa using hu)))
  have hfr : Lst w2 3 1 (.slice a 0 c) 0 (nats []) := lst_mod (lst_grow HS1.out.frs (grow_alloc _ _)) (Mod.of_grown g2 (S := slB g (.slice a' ps.length c') (.slice none 0 0)) (fun k hk => slB_mem.2 (.inr (.inl hk)))) (fun k hk hn => by
    rcases slB_mem.1 hn with rfl | h | h
    · exact lst_blk_ne HS1.out.frs HS1.out.blk tne2C hk
    · exact lst_ne HS1.out.pls HS1.out.frs tne3C k h hk
    · cases h)
  refine ⟨_, rfl, mk2C hb2 rfl hpl hfr hwd, ?_, ?_⟩
  · have m1 : Mod (slB g (.slice a' ps.length c') (.slice a 0 c)) w w1 := HM.out.mono (fun _ h => by cases h)
    have m2 : Mod (slB g (.slice a' ps.length c') (.slice a 0 c)) w1 w2 := (Mod.alloc w1 _ _).trans' (Mod.of_grown g2 (fun k hk => slB_mem.2 (.inr (.inl hk))))
    exact (m1.trans' m2).trans' (Mod.setCell _ _ _ _ (slB_mem.2 (.inl rfl)))
  · rcases wh with e | ⟨k, e, hk⟩
    · exact .inl e
    · refine .inr ⟨k, e, ?_⟩
      have := HM.out.size
      simp at hk
      omega

end Go.Proofs.YtnnmfgnommbmkaaGreatDoor
