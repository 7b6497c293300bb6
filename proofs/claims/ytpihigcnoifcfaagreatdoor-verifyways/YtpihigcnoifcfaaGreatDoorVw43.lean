/- node.part, its two slices told of any world that holds the leaves;  -/
import Derived.Test.YtpihigcnoifcfaaGreatDoorVw40
import Derived.Test.YtpihigcnoifcfaaGreatDoorVw22
import Derived.Test.YtpihigcnoifcfaaGreatDoorVw35
import Derived.Test.YtpihigcnoifcfaaGreatDoorVw42
import Derived.Test.YtpihigcnoifcfaaGreatDoorVw29
import Derived.Test.YtpihigcnoifcfaaGreatDoorVw41
import Derived.Test.YtpihigcnoifcfaaGreatDoorVw25
import Derived.Test.YtpihigcnoifcfaaGreatDoorVw12
namespace Go.Proofs.YtpihigcnoifcfaaGreatDoor
set_option maxRecDepth 20000
open Go.RowKit

def PartPost (g off d : Nat) (ls : List Lf) (w : World) (e : Ending) (w' : World) : Prop :=
  ∃ a0 m0 c0 a1 m1 c1, e = .returned (.tuple #[.slice a0 m0 c0, .slice a1 m1 c1]) ∧ (∀ wx : World, (∀ i, i < ls.length → wx.rangeAt g (off + i * 129) (encLf ls[i]!)) → LvAt wx (.slice a0 m0 c0) (sdL ls d 0) ∧ LvAt wx (.slice a1 m1 c1) (sdL ls d 1)) ∧ Below w.heap.size w w'

set_option maxHeartbeats 4000000 in
theorem part_in (g off cap d : Nat) (ls : List Lf) (w : World) (hd : d < 256) (hn : ls.length ≤ 4096) (hcap : ls.length ≤ cap) (hr : Rise ls) (hs : Same ls d) (hv : ∀ i, i < ls.length → w.rangeAt g (off + i * 129) (encLf ls[i]!)) :
    Calls Tryz.prog 15 #[.slice (some ⟨g, off, none⟩) ls.length cap, .int .i64 d] w (PartPost g off d ls w) := by
  obtain ⟨c, hc⟩ : ∃ c, c = ls.countP fun x => !(kb x.key d == 1) := ⟨_, rfl⟩
  have hcn : c ≤ ls.length := by rw [hc]; exact List.countP_le_length
  obtain ⟨p0, p1⟩ := part_at ls d hd hr hs
  rw [← hc] at p0 p1
  have eg : ∀ args w, (callFunc 36 args).run Tryz.prog w = .ok (.enter 36 args) w := enters_of Tryz.func36 (by kernel_rfl) rfl
  have HSE : Hid (∀ w' g1 g2, Below w.heap.size w w' → w'.cell? ⟨g1, 0, none⟩ = some (.slice (some ⟨g, off, none⟩) ls.length cap) → w'.cell? ⟨g2, 0, none⟩ = some (.int .i64 d) →
      Calls Tryz.prog 35 #[.int .i64 ls.length, .func (.func 36) #[] #[.pointer (some ⟨g1, 0, none⟩), .pointer (some ⟨g2, 0, none⟩)]] w' fun e w'' => e = .returned (.int .i64 c) ∧ Grew w' w'') := by
    intro w' g1 g2 hb h1 h2
    have h := Any.sort_Search searchL 36 #[.pointer (some ⟨g1, 0, none⟩), .pointer (some ⟨g2, 0, none⟩)] ls.length (fun i => kb ls[i]!.key d == 1) w' eg (by omega) (fun m os i hi => by
      have q : Grew w' (Go.Sort.grow (w'.drewN m) os) := ⟨m, os, rfl⟩
      have := closure_bit g off cap ls.length i d g1 g2 ls[i]! _ hi hd ((q.below.cell (block_lt_of_cell h1)).trans h1) ((q.below.cell (block_lt_of_cell h2)).trans h2) (range_grow (hv i hi) (grow_trans hb q.below))
      exact this.mono fun e w'' ⟨e1, e2⟩ => ⟨e1, e2⟩) (part_mono ls d hd hr hs)
    rw [countP_rng (fun x => !(kb x.key d == 1)) ls, ← hc] at h
    exact h
  have HV : Hid (∀ w', Below w.heap.size w w' → PartPost g off d ls w (.returned (.tuple #[.slice (some ⟨g, off, none⟩) c cap, .slice (if cap = c then some ⟨g, off, none⟩ else some ⟨g, off + c * 129, none⟩) (ls.length - c) (cap - c)])) w') := by
    intro w' hb
    refine ⟨_, _, _, _, _, _, rfl, fun wx hx => ?_, hb⟩
    have := LvAt.cut hx hcap c hcn
    rwa [p0, p1] at this
  obtain ⟨n, hnn⟩ : ∃ n, n = ls.length := ⟨_, rfl⟩
  rw [← hnn] at HSE HV hcn hcap hn ⊢
  have i1 : (c : Int) ≤ (n : Int) := by omega
  have i2 : (0 : Int) ≤ (c : Int) := by omega
  have i3 : (n : Int) ≤ (cap : Int) := by omega
  have i4 : (c : Int) ≤ (cap : Int) := by omega
  clear hr hs hv hc p0 p1 eg hnn
  go_enter Tryz.func15, Tryz.ntmps15
  go_wp2_with (go_at_call 35; refine (HSE.out _ _ _ (grow_trans (grow_alloc _ _) (grow_alloc _ _)) (by simp) (by simp)).mono ?_; rintro e x1 ⟨rfl, a1⟩)
  have hx : Below w.heap.size w x1 := grow_trans (grow_trans (grow_alloc _ _) (grow_alloc _ _)) a1.below
  have HS : Hid (∀ w', Below x1.heap.size x1 w' → w'.cell? ⟨w.heap.size, 0, none⟩ = some (.slice (some ⟨g, off, none⟩) n cap)) := by
    intro w' hw'
    have q0 : ((w.alloc (.cells #[.slice (some ⟨g, off, none⟩) n cap] 55)).alloc (.cells #[.int .i64 d] 3)).cell? ⟨w.heap.size, 0, none⟩ = some (.slice (some ⟨g, off, none⟩) n cap) := by simp
    have q1 := (a1.below.cell (block_lt_of_cell q0)).trans q0
    exact (hw'.cell (block_lt_of_cell q1)).trans q1
  have d0 : Below x1.heap.size x1 x1.drew := (Below.refl _ _).drew
  refine wp_region_held_drew (S := fun w' => w'.cell? ⟨w.heap.size, 0, none⟩ = some (.slice (some ⟨g, off, none⟩) n cap)) (by kernel_rfl) (HS.out _ d0) (fun hHeld => ?_)
  refine wpAnyH_take (i := 0) (v := .slice (some ⟨g, off, none⟩) n cap) rfl (by kernel_rfl) (by kernel_rfl) (by kernel_rfl) (fun _ _ _ h => h) (Or.inl ⟨by rfl, fun w hS => by (have s1 := hS; go_simp)⟩) hHeld ?_
  simp only [Act.put, List.getElem_toArray, List.getElem_cons_zero, List.setIfInBounds_toArray, List.set_cons_zero, List.set_cons_succ]
  refine wpAnyH_take (i := 1) (v := .int .i64 c) rfl (by kernel_rfl) (by kernel_rfl) (by kernel_rfl) (fun _ _ _ h => h) (Or.inl ⟨by rfl, fun w hS => by go_simp⟩) hHeld ?_
  simp only [Act.put, List.getElem_toArray, List.getElem_cons_zero, List.getElem_cons_succ, List.setIfInBounds_toArray, List.set_cons_zero, List.set_cons_succ]
  refine wpAnyH_take (i := 2) (v := .slice (some ⟨g, off, none⟩) c cap) rfl (by kernel_rfl) (by kernel_rfl) (by kernel_rfl) (fun _ _ _ h => h) (Or.inl ⟨by rfl, fun w hS => by go_simp⟩) hHeld ?_
  simp only [Act.put, List.getElem_toArray, List.getElem_cons_zero, List.getElem_cons_succ, List.setIfInBounds_toArray, List.set_cons_zero, List.set_cons_succ]
  refine wpAnyH_take (i := 3) (v := .slice (some ⟨g, off, none⟩) n cap) rfl (by kernel_rfl) (by kernel_rfl) (by kernel_rfl) (fun _ _ _ h => h) (Or.inl ⟨by rfl, fun w hS => by (have s1 := hS; go_simp)⟩) hHeld ?_
  simp only [Act.put, List.getElem_toArray, List.getElem_cons_zero, List.getElem_cons_succ, List.setIfInBounds_toArray, List.set_cons_zero, List.set_cons_succ]
  refine wpAnyH_take (i := 4) (v := .int .i64 c) rfl (by kernel_rfl) (by kernel_rfl) (by kernel_rfl) (fun _ _ _ h => h) (Or.inl ⟨by rfl, fun w hS => by go_simp⟩) hHeld ?_
  simp only [Act.put, List.getElem_toArray, List.getElem_cons_zero, List.getElem_cons_succ, List.setIfInBounds_toArray, List.set_cons_zero, List.set_cons_succ]
  refine wpAnyH_take (i := 5) (v := .slice (if cap = c then some ⟨g, off, none⟩ else some ⟨g, off + c * 129, none⟩) (n - c) (cap - c)) rfl (by kernel_rfl) (by kernel_rfl) (by kernel_rfl) (fun _ _ _ h => h) (Or.inl ⟨by rfl, fun w hS => by (go_simp; skip)⟩) hHeld ?_
  simp only [Act.put, List.getElem_toArray, List.getElem_cons_zero, List.getElem_cons_succ, List.setIfInBounds_toArray, List.set_cons_zero, List.set_cons_succ]
  refine wpAnyH_take (i := 6) (v := .slice (some ⟨g, off, none⟩) c cap) rfl (by kernel_rfl) (by kernel_rfl) (by kernel_rfl) (fun _ _ _ h => h) (Or.inl ⟨by rfl, fun w hS => by go_simp⟩) hHeld ?_
  simp only [Act.put, List.getElem_toArray, List.getElem_cons_zero, List.getElem_cons_succ, List.setIfInBounds_toArray, List.set_cons_zero, List.set_cons_succ]
  refine wpAnyH_take (i := 7) (v := .slice (if cap = c then some ⟨g, off, none⟩ else some ⟨g, off + c * 129, none⟩) (n - c) (cap - c)) rfl (by kernel_rfl) (by kernel_rfl) (by kernel_rfl) (fun _ _ _ h => h) (Or.inl ⟨by rfl, fun w hS => by go_simp⟩) hHeld ?_
  simp only [Act.put, List.getElem_toArray, List.getElem_cons_zero, List.getElem_cons_succ, List.setIfInBounds_toArray, List.set_cons_zero, List.set_cons_succ]
  refine wpAnyH_done (by kernel_rfl) ?_ _
  generalize (if cap = c then (some ⟨g, off, none⟩ : Option Addr) else some ⟨g, off + c * 129, none⟩) = A1 at HV ⊢
  go_wp2_with fail
  go_ret2
  exact HV.out _ (grow_trans hx d0)

end Go.Proofs.YtpihigcnoifcfaaGreatDoor

/- node.Way, as a contract. -/
namespace Go.Proofs.YtpihigcnoifcfaaGreatDoor
set_option maxRecDepth 20000
open Go.RowKit

set_option maxHeartbeats 4000000 in
theorem way_bad (v : Value) (V : Nat → Value) (es : List Ent) (key : List Int) (w : World) (hv : PrAt w v V es) (hn : es.length ≤ 140737488355328) (hE : errB es ≠ 0) :
    Calls Tryz.prog 5 #[v, .agg (B key)] w (WayPost es key w) := by
  have HLv : Hid (∀ w', Below w.heap.size w w' → Calls Tryz.prog 14 #[v] w' fun e w'' => e = .returned (.tuple #[.slice none 0 0, .int .i64 (errB es)]) ∧ Below w'.heap.size w' w'') := fun w' hb => leavesOf_bad v V es w' (hv.grow hb) hn hE
  have HPost : Hid (∀ w', Below w.heap.size w w' → WayPost es key w (.returned (.tuple #[.agg (encR (.slice none 0 0) (nd 0 z32 z32 z32 z32)).toArray, .int .i64 (errB es)])) w') := fun w' hb => by
    refine ⟨none, 0, ?_, ?_, hb⟩
    · rw [wyH, wyN, if_neg hE, if_neg hE]
      rfl
    · rw [wyH, if_neg hE]
      exact World.ownsRow_nil _ _ _ _
  obtain ⟨a, cap, rfl, _, _, _⟩ := hv
  obtain ⟨E, hEE⟩ : ∃ E, E = errB es := ⟨_, rfl⟩
  rw [← hEE] at HLv hE HPost
  have h1 : (E != 0) = true := by simp [hE]
  have h2 : (E == 0) = false := by simp [hE]
  obtain ⟨N, hN⟩ : ∃ N, N = nd 0 z32 z32 z32 z32 := ⟨_, rfl⟩
  have HB : Hid (Tryz.prog.built 35 [] = some (encR (.slice none 0 0) N).toArray) := by rw [hN]; exact built_proof0
  have HSz : Hid ((Tryz.prog.info? 35).map (·.size) = some (encR (.slice none 0 0) N).toArray.size ∧ (encR (.slice none 0 0) (List.replicate 129 0)).toArray.size = (encR (.slice none 0 0) N).toArray.size) := ⟨encR_sz _ N (by rw [hN]; rfl), by rw [hN]; rfl⟩
  rw [← hN] at HPost
  obtain ⟨fp, hup⟩ := u_proof
  have HUP := hidden hup
  clear hEE hE hN hup
  go_enter Tryz.func5, Tryz.ntmps5
  go_wp2_with (first
    | ((with_reducible refine at_bxd 3 ?_); refine wpList_bx _ rfl _ _ rfl _ rfl ?_; intro w1 g3 hg3 hl3 B3 b1)
    | ((with_reducible refine at_ald 4 ?_); refine wpList_al _ rfl _ rfl _ zero_proof ?_; intro w2 g4 hg4 hl4 B4 b2; have c2 := grow_trans b1 b2)
    | (go_at_call 14; refine (HLv.out _ c2).mono ?_; rintro e w3 ⟨rfl, b3⟩; have D4 := B4.grow b3; have c3 := grow_trans c2 b3)
    | ((with_reducible refine at_bd ?_); refine wpList_bld _ rfl _ _ rfl _ (by rw [List.map_toArray]; exact HB.out) ?_)
    | ((with_reducible refine at_st 4 ?_); refine wpList_sto _ rfl _ _ _ rfl g4 _ (encR (.slice none 0 0) N).toArray rfl rfl D4 HSz.out.1 HSz.out.2 (encR_one _ _ _ _) ?_; intro w4 B5 r4))
  exact bodyPost_ret (v := .tuple #[.agg (encR (.slice none 0 0) N).toArray, .int .i64 E]) (results_agg_tmp rfl _ _ g4 _ _ rfl rfl B5 HUP.out HSz.out.1) rfl (HPost.out _ (below_row c3 r4 (Nat.le_trans b1.size hg4)))

set_option maxRecDepth 100000 in
set_option maxHeartbeats 8000000 in
theorem way_good (v : Value) (V : Nat → Value) (es : List Ent) (key : List Int) (w : World) (hv : PrAt w v V es) (hn : es.length ≤ 4096) (hE : errB es = 0) (hkey : Key key) (hL : Laid w) :
    Calls Tryz.prog 5 #[v, .agg (B key)] w (WayPost es key w) := by
  have hkeys := hv.keys
  have HL := hidden hL
  have HKEY := hidden hkey
  have HKZ : Hid ((Tryz.prog.info? 24).map (·.size) = some (B key).size) := by show _ = _; rw [B_size, hkey.1]; exact sz_path
  have HLv : Hid (∀ w', Below w.heap.size w w' → Calls Tryz.prog 14 #[v] w' (LvPost es w')) := fun w' hb => leavesOf_ok v V es w' (hv.grow hb) hn (hL.grow hb) hE
  have HPost : Hid (∀ w' sa sc n N hs, hs = sds 256 0 es key → N = endN (rst 256 0 es key) → hs.length = n → w'.ownsRow w.heap.size 25 32 (.slice sa n sc) n (flatH hs) → Below w.heap.size w w' → WayPost es key w (.returned (.tuple #[.agg (encR (.slice sa n sc) N).toArray, .int .i64 0])) w') := by
    intro w' sa sc n N hs e1 e2 e3 ho hb
    have f1 : wyH es key = hs := by rw [wyH, if_pos hE, e1]
    have f2 : wyN es key = N := by rw [wyN, if_pos hE, e2]
    refine ⟨sa, sc, ?_, ?_, hb⟩
    · rw [f1, f2, hE, e3]
    · rw [f1, e3]
      exact ho
  have HST := hidden (WaySt.start (es := es) key hkeys)
  obtain ⟨a, cap, rfl, _, _, _⟩ := hv
  obtain ⟨fp, hup⟩ := u_proof
  have HUP := hidden hup
  obtain ⟨fn, hun⟩ := u_node
  have HUN := hidden hun
  obtain ⟨Z, hZ⟩ : ∃ Z : List Int, Z = List.replicate 129 0 := ⟨_, rfl⟩
  have HZ := hidden hZ
  have HZP : Hid (∀ w, (zeroValue 35).run Tryz.prog w = .ok (.agg (encR (.slice none 0 0) Z).toArray) w) := by rw [hZ]; exact zero_proof
  have HSz : Hid (∀ s N, N.length = 129 → (Tryz.prog.info? 35).map (·.size) = some (encR s N).toArray.size ∧ (encR (.slice none 0 0) Z).toArray.size = (encR s N).toArray.size) := fun s N hN => ⟨encR_sz _ N hN, by simp [encR, hN, hZ]⟩
  have HZL : Hid (Z.length = 129) := by rw [hZ]; rfl
  clear hE hup hkey hkeys hL hun hZ
  go_enter Tryz.func5, Tryz.ntmps5
  go_wp2_with (first
    | ((with_reducible refine at_bxd 3 ?_); refine wpList_bx _ rfl _ _ rfl _ rfl ?_; intro w1 g3 hg3 hl3 B3 b1)
    | ((with_reducible refine at_ald 4 ?_); refine wpList_al _ rfl _ rfl _ HZP.out ?_; intro w2 g4 hg4 hl4 B4 b2; have c2 := grow_trans b1 b2; have D3 := B3.grow b2)
    | (go_at_call 14; refine (HLv.out _ c2).mono ?_; rintro e w3 ⟨x, ls0, rfl, p1, p2, p3, b3⟩; have P1 := hidden p1; obtain ⟨xa, xc, rfl, _, _⟩ := p1; have P2 := hidden p2; have P3 := hidden p3; clear p2 p3; have D4 := B4.grow b3; have E3 := D3.grow b3; have c3 := grow_trans c2 b3; obtain ⟨m0, hm0⟩ : ∃ m0, m0 = ls0.length := ⟨_, rfl⟩; rw [← hm0]; rw [← hm0] at P1; have HM0 := hidden hm0; clear hm0)
    | ((with_reducible refine at_ald 8 ?_); refine wpList_al _ rfl _ rfl _ HZP.out ?_; intro w4 g8 hg8 hl8 B8 b4))
  have HB8 := hidden B8
  have HB4 := hidden b4
  have HE3 := hidden E3
  have HD4 := hidden D4
  have HG8 := hidden hg8
  have HC3 := hidden c3
  have HG4 : Hid (w.heap.size ≤ g4) := Nat.le_trans b1.size hg4
  clear B8 b4 E3 D4 c3 b3 D3 c2 b2 b1 B3 B4 hg3 hl3 hg4 hl4 hl8 hg8 w1 w2
  go_loopw [6, 9] (fun l i wr => ∃ (d m : Nat) (la : Option Addr) (lc : Nat) (ed : List Ent) (ls : List Lf) (hs : List (List Int)) (sa : Option Addr) (sc : Nat), d ≤ 256 ∧ m ≤ 4096 ∧ l = .slice la m lc ∧ i = .int .i64 d ∧ Hid (ls.length = m) ∧ Hid (LvAt w3 (.slice la m lc) ls) ∧ Hid (Rise ls ∧ Same ls d ∧ ls.Perm (ed.map mkLf)) ∧ Hid (WaySt es key d ed hs) ∧ Hid (wr.ownsRow w3.heap.size 25 32 (.slice sa d sc) d (flatH hs)) ∧ Hid (Blk wr g8 35 (encR (.slice sa d sc) Z).toArray) ∧ Hid (Below w3.heap.size w3 wr)) (fun _ i _ => 256 - (intOf i).toNat)
  case atStart => exact ⟨0, m0, xa, xc, es, ls0, [], none, 0, by omega, by rw [HM0.out, P2.out.length_eq, List.length_map]; exact hn, rfl, rfl, HM0.out.symm, P1, ⟨P3.out, fun _ _ _ _ j hj => by omega, P2.out⟩, HST, World.ownsRow_nil _ _ _ _, HB8, HB4⟩
  case round =>
    obtain ⟨d, m, la, lc, ed, ls, hs, sa, sc, hd, hm, rfl, rfl, hml, hlv, hls, hst, hown, hblk, hbw⟩ := hrel
    by_cases hgt : 1 < m
    · have hd256 : d < 256 := by
        by_cases q : d = 256
        · subst q
          have := hls.out.1.few hls.out.2.1
          have := hml.out
          omega
        · omega
      have z1 : (1 : Int) < (m : Int) := by omega
      have hedl : ed.length = m := by rw [← hml.out, hls.out.2.2.length_eq, List.length_map]
      have HPa : Hid (Calls Tryz.prog 15 #[.slice la m lc, .int .i64 d] wr fun e w' => ∃ a0 m0 c0 a1 m1 c1, e = .returned (.tuple #[.slice a0 m0 c0, .slice a1 m1 c1]) ∧ LvAt w3 (.slice a0 m0 c0) (sdL ls d 0) ∧ LvAt w3 (.slice a1 m1 c1) (sdL ls d 1) ∧ Below wr.heap.size wr w') := by
        obtain ⟨la', lc', e, hcap, hr⟩ := hlv.out
        have hlm := hml.out
        injection e with e1 e2 e3
        subst e1
        subst e3
        obtain ⟨g, off, rfl, hrr⟩ := hr (by omega)
        have h := part_in g off lc d ls wr hd256 (by omega) hcap hls.out.1 hls.out.2.1 (fun i hi => range_grow (hrr i hi) hbw.out)
        rw [hlm] at h
        refine h.mono ?_
        rintro e w' ⟨a0, m0, c0, a1, m1, c1, rfl, hx, hb⟩
        exact ⟨a0, m0, c0, a1, m1, c1, rfl, (hx w3 hrr).1, (hx w3 hrr).2, hb⟩
      have HRo : Hid (∀ c a1 m1 c1, LvAt w3 (.slice a1 m1 c1) (sdL ls d c) → ∀ w', Below w3.heap.size w3 w' → Calls Tryz.prog 17 #[.slice a1 m1 c1, .int .i64 ((d : Int) + 1)] w' fun e w'' => e = .returned (.agg (B (rt (255 - d) (d + 1) (sideOf ed d c)))) ∧ Below w'.heap.size w' w'') := by
        intro c a1 m1 c1 h1 w' hb
        have hp := sdL_perm hd256 hst.out.keys hls.out.2.2 c
        have h4 := rootAt_any (255 - d) (d + 1) (sdL ls d c) (.slice a1 m1 c1) w' (by omega) (Nat.le_trans (List.length_filter_le _ _) (by rw [hml.out]; exact hm)) (hls.out.1.side d c) (hls.out.2.1.side c) (h1.grow hb) ((HL.out.grow HC3.out).grow hb)
        rw [rtL_perm _ _ _ _ hp, rt_map _ _ (sideOf ed d c) (by omega) (fun e he => hst.out.keys e (List.mem_filter.1 he).1)] at h4
        simpa using h4
      have HNX : Hid (∀ c, Rise (sdL ls d c) ∧ Same (sdL ls d c) (d + 1) ∧ (sdL ls d c).Perm ((sideOf ed d c).map mkLf) ∧ (sdL ls d c).length ≤ 4096) := fun c => ⟨hls.out.1.side d c, hls.out.2.1.side c, sdL_perm hd256 hst.out.keys hls.out.2.2 c, Nat.le_trans (List.length_filter_le _ _) (by rw [hml.out]; exact hm)⟩
      have hstep := hst.out.step (by omega) hd256
      have HBit : Hid (∀ w', Calls Tryz.prog 16 #[.agg (B key), .int .i64 d] w' fun e w'' => e = .returned (.int .i64 (kb key d)) ∧ Below w'.heap.size w' w'') := fun w' => by
        have := bit_any key d w' HKEY.out
        rwa [kbi_in _ _ hd256] at this
      have hb2 := kb_two key d
      have HK3 := hidden (HE3.out.grow hbw.out)
      have hw : IntKind.i64.wrap ((d : Int) + 1) = (d : Int) + 1 := by rw [IntKind.wrap_i64]; omega
      obtain ⟨β, hβ⟩ : ∃ β, β = kb key d := ⟨_, rfl⟩
      rw [← hβ] at HBit hstep hb2
      have hbo := hbw.out
      have hoo := hown.out
      have hbb := hblk.out
      have HOO := hidden hoo
      have HBB := hidden hbb
      have HBO := hidden hbo
      clear hml hlv hls hst hown hblk hbw hedl hβ hbo hoo hbb
      rcases hb2 with hb2 | hb2
      · subst hb2
        have e10 : (1 : Int) - 0 = 1 := by omega
        rw [e10] at hstep
        obtain ⟨D, hD⟩ : ∃ D, D = rt (255 - d) (d + 1) (sideOf ed d 1) := ⟨_, rfl⟩
        have HDK : Hid (D.length = 32 ∧ Bytes D) := by rw [hD]; exact rt_len _ _ _
        have HRD := hidden (HRo.out 1)
        have HNM := hidden (HNX.out 0)
        rw [← hD] at HRD hstep
        have HSTEP := hidden hstep
        clear hstep hD HRo e10 HNX
        go_wp2_with (first
          | (go_at_call 15; refine HPa.out.mono ?_; rintro e x1 ⟨a0, m0, c0, a1, m1, c1, rfl, p0, p1, q1⟩; have HP0 := hidden p0; have HP1 := hidden p1; clear p0 p1; have HK4 := hidden (HK3.out.grow q1); have HR1 := hidden (HRD.out _ _ _ HP1.out))
          | ((with_reducible refine at_ldd 32 3 ?_); refine wpList_ld _ rfl _ _ rfl g3 _ rfl HK4.out _ _ Tryz.underlying24 HKZ.out ?_)
          | (go_at_call 16; refine (HBit.out _).mono ?_; rintro e x2 ⟨rfl, q2⟩))
        have d0 : Below wr.heap.size wr x2.drew := grow_trans q1 (grow_trans q2 (Below.refl _ _).drew)
        have HS : Hid (∀ w', Below wr.heap.size wr w' → Blk w' g8 35 (encR (.slice sa d sc) Z).toArray) := fun w' q => HBB.out.grow q
        refine wp_region_last (S := fun w' => Blk w' g8 35 (encR (.slice sa d sc) Z).toArray) 9 (by kernel_rfl) (HS.out _ d0) (fun hHeld => ?_)
        refine wpAnyL_take (i := 0) (v := .pointer (some ⟨g8, 0, none⟩)) rfl (by kernel_rfl) (by kernel_rfl) (by kernel_rfl) (by kernel_rfl) (by kernel_rfl) (fun _ _ _ h => h) (Or.inl ⟨by rfl, fun w hS => by go_simp⟩) hHeld ?_
        simp only [Act.put, List.getElem_toArray, List.getElem_cons_zero, List.setIfInBounds_toArray, List.set_cons_zero, List.set_cons_succ]
        refine wpAnyL_take (i := 1) (v := .slice sa d sc) rfl (by kernel_rfl) (by kernel_rfl) (by kernel_rfl) (by kernel_rfl) (by kernel_rfl) (fun _ _ _ h => h) (Or.inl ⟨by rfl, fun w hS => by (have s1 := proof_side hS; go_simp)⟩) hHeld ?_
        simp only [Act.put, List.getElem_toArray, List.getElem_cons_zero, List.getElem_cons_succ, List.setIfInBounds_toArray, List.set_cons_zero, List.set_cons_succ]
        refine wpAnyL_take (i := 2) (v := .slice a1 m1 c1) rfl (by kernel_rfl) (by kernel_rfl) (by kernel_rfl) (by kernel_rfl) (by kernel_rfl) (fun _ _ _ h => h) (Or.inl ⟨by rfl, fun w hS => by go_simp⟩) hHeld ?_
        simp only [Act.put, List.getElem_toArray, List.getElem_cons_zero, List.getElem_cons_succ, List.setIfInBounds_toArray, List.set_cons_zero, List.set_cons_succ]
        refine wpAnyL_take (i := 3) (v := .int .i64 d) rfl (by kernel_rfl) (by kernel_rfl) (by kernel_rfl) (by kernel_rfl) (by kernel_rfl) (fun _ _ _ h => h) (Or.inl ⟨by rfl, fun w hS => by go_simp⟩) hHeld ?_
        simp only [Act.put, List.getElem_toArray, List.getElem_cons_zero, List.getElem_cons_succ, List.setIfInBounds_toArray, List.set_cons_zero, List.set_cons_succ]
        refine wpAnyL_take (i := 4) (v := .int .i64 ((d : Int) + 1)) rfl (by kernel_rfl) (by kernel_rfl) (by kernel_rfl) (by kernel_rfl) (by kernel_rfl) (fun _ _ _ h => h) (Or.inl ⟨by rfl, fun w hS => by go_simp⟩) hHeld ?_
        simp only [Act.put, List.getElem_toArray, List.getElem_cons_zero, List.getElem_cons_succ, List.setIfInBounds_toArray, List.set_cons_zero, List.set_cons_succ]
        refine wpAnyL_one (i := 5) rfl (by kernel_rfl) (fun KQ hK => ?_)
        go_simp
        refine (HR1.out _ (grow_trans HBO.out (grow_trans q1 (grow_trans q2 (Below.refl _ _).drew)))).mono ?_
        rintro e x3 ⟨rfl, a3⟩
        have d3 := grow_trans d0 a3
        have o3 := ownsH_below HOO.out d3
        refine hK.out _ _ (HS.out _ d3) (fun hHeld => ?_)
        clear hK KQ
        refine wpAnyL_one (i := 6) rfl (by kernel_rfl) (fun KQ hK => ?_)
        have oA := o3.alloc (.cells (B D) 25)
        have dA := grow_trans d3 (grow_alloc x3 (.cells (B D) 25))
        refine step_bsh _ rfl _ rfl D rfl HDK.out.1 ?_
        refine hK.out _ _ (HS.out _ dA) (fun hHeld => ?_)
        clear hK KQ
        refine wpAnyL_one (i := 7) rfl (by kernel_rfl) (fun KQ hK => ?_)
        refine step_appH _ rfl _ _ rfl w3.heap.size _ d (flatH hs) oA rfl x3.heap.size D rfl (Blk.new _ _ _) HDK.out.1 (by omega) (Nat.le_trans (Nat.le_trans HBO.out.size d3.size) (by simp)) ?_
        intro v5 x5 ho5 hg5
        have nb := own_ne oA (HS.out _ dA)
        refine hK.out _ _ ((HS.out _ dA).keptO hg5 nb) (fun hHeld => ?_)
        clear hK KQ
        refine wpAnyL_take (i := 8) (v := .pointer (some ⟨g8, 0, none⟩)) rfl (by kernel_rfl) (by kernel_rfl) (by kernel_rfl) (by kernel_rfl) (by kernel_rfl) (fun _ _ _ h => h) (Or.inl ⟨by rfl, fun w hS => by go_simp⟩) hHeld ?_
        simp only [Act.put, List.getElem_toArray, List.getElem_cons_zero, List.getElem_cons_succ, List.setIfInBounds_toArray, List.set_cons_zero, List.set_cons_succ]
        have hB5 := hHeld
        have hcell := proof_side hB5
        have hfr := hB5.frozen 0
        obtain ⟨sa5, sc5, rfl⟩ := own_slice ho5
        refine wpAnyL_last rfl (by kernel_rfl) (by kernel_rfl) (fun KQ hK => ?_)
        go_simp
        
        refine hK.out _ _ ?_
        clear hK KQ
        have hB6 := blk_side hB5 (.slice sa5 (d + 1) sc5)
        have gr6 := grown_setCell x5 g8 0 (.slice sa5 (d + 1) sc5)
        have ho6 := ho5.kept gr6 (.inr (fun e => own_ne ho5 hB5 e.symm))
        have hb5 : Below w3.heap.size w3 x5 := below_ownH (grow_trans HBO.out dA) oA (Nat.le_refl _) hg5
        have hb6 := below_row hb5 gr6 HG8.out
        rw [← flatH_snoc] at ho6
        have HF6 := hidden (And.intro ho6 (And.intro hB6 hb6))
        generalize x5.setCell ⟨g8, 0, none⟩ (.slice sa5 (d + 1) sc5) = x6 at *
        clear hB5 hcell hfr ho5 hg5 nb hB6 gr6 ho6 hb5 hb6 o3 oA dA hHeld HS
        have hm0 : m0 = (sdL ls d 0).length := by
          obtain ⟨_, _, e, _⟩ := HP0.out
          injection e
        have HMM := hidden hm0
        clear hm0
        go_wp2_with fail
        exact ⟨⟨d + 1, m0, a0, c0, sideOf ed d 0, sdL ls d 0, hs ++ [D], sa5, sc5, by omega, by rw [HMM.out]; exact HNM.out.2.2.2, rfl, by go_num, HMM.out.symm, HP0, ⟨HNM.out.1, HNM.out.2.1, HNM.out.2.2.1⟩, HSTEP, HF6.out.1, HF6.out.2.1, HF6.out.2.2⟩, by simp [intOf]; omega⟩
      · subst hb2
        have e10 : (1 : Int) - 1 = 0 := by omega
        rw [e10] at hstep
        obtain ⟨D, hD⟩ : ∃ D, D = rt (255 - d) (d + 1) (sideOf ed d 0) := ⟨_, rfl⟩
        have HDK : Hid (D.length = 32 ∧ Bytes D) := by rw [hD]; exact rt_len _ _ _
        have HRD := hidden (HRo.out 0)
        have HNM := hidden (HNX.out 1)
        rw [← hD] at HRD hstep
        have HSTEP := hidden hstep
        clear hstep hD HRo e10 HNX
        go_wp2_with (first
          | (go_at_call 15; refine HPa.out.mono ?_; rintro e x1 ⟨a0, m0, c0, a1, m1, c1, rfl, p0, p1, q1⟩; have HP0 := hidden p0; have HP1 := hidden p1; clear p0 p1; have HK4 := hidden (HK3.out.grow q1); have HR1 := hidden (HRD.out _ _ _ HP0.out))
          | ((with_reducible refine at_ldd 32 3 ?_); refine wpList_ld _ rfl _ _ rfl g3 _ rfl HK4.out _ _ Tryz.underlying24 HKZ.out ?_)
          | (go_at_call 16; refine (HBit.out _).mono ?_; rintro e x2 ⟨rfl, q2⟩))
        have d0 : Below wr.heap.size wr x2.drew := grow_trans q1 (grow_trans q2 (Below.refl _ _).drew)
        have HS : Hid (∀ w', Below wr.heap.size wr w' → Blk w' g8 35 (encR (.slice sa d sc) Z).toArray) := fun w' q => HBB.out.grow q
        refine wp_region_last (S := fun w' => Blk w' g8 35 (encR (.slice sa d sc) Z).toArray) 9 (by kernel_rfl) (HS.out _ d0) (fun hHeld => ?_)
        refine wpAnyL_take (i := 0) (v := .pointer (some ⟨g8, 0, none⟩)) rfl (by kernel_rfl) (by kernel_rfl) (by kernel_rfl) (by kernel_rfl) (by kernel_rfl) (fun _ _ _ h => h) (Or.inl ⟨by rfl, fun w hS => by go_simp⟩) hHeld ?_
        simp only [Act.put, List.getElem_toArray, List.getElem_cons_zero, List.setIfInBounds_toArray, List.set_cons_zero, List.set_cons_succ]
        refine wpAnyL_take (i := 1) (v := .slice sa d sc) rfl (by kernel_rfl) (by kernel_rfl) (by kernel_rfl) (by kernel_rfl) (by kernel_rfl) (fun _ _ _ h => h) (Or.inl ⟨by rfl, fun w hS => by (have s1 := proof_side hS; go_simp)⟩) hHeld ?_
        simp only [Act.put, List.getElem_toArray, List.getElem_cons_zero, List.getElem_cons_succ, List.setIfInBounds_toArray, List.set_cons_zero, List.set_cons_succ]
        refine wpAnyL_take (i := 2) (v := .slice a0 m0 c0) rfl (by kernel_rfl) (by kernel_rfl) (by kernel_rfl) (by kernel_rfl) (by kernel_rfl) (fun _ _ _ h => h) (Or.inl ⟨by rfl, fun w hS => by go_simp⟩) hHeld ?_
        simp only [Act.put, List.getElem_toArray, List.getElem_cons_zero, List.getElem_cons_succ, List.setIfInBounds_toArray, List.set_cons_zero, List.set_cons_succ]
        refine wpAnyL_take (i := 3) (v := .int .i64 d) rfl (by kernel_rfl) (by kernel_rfl) (by kernel_rfl) (by kernel_rfl) (by kernel_rfl) (fun _ _ _ h => h) (Or.inl ⟨by rfl, fun w hS => by go_simp⟩) hHeld ?_
        simp only [Act.put, List.getElem_toArray, List.getElem_cons_zero, List.getElem_cons_succ, List.setIfInBounds_toArray, List.set_cons_zero, List.set_cons_succ]
        refine wpAnyL_take (i := 4) (v := .int .i64 ((d : Int) + 1)) rfl (by kernel_rfl) (by kernel_rfl) (by kernel_rfl) (by kernel_rfl) (by kernel_rfl) (fun _ _ _ h => h) (Or.inl ⟨by rfl, fun w hS => by go_simp⟩) hHeld ?_
        simp only [Act.put, List.getElem_toArray, List.getElem_cons_zero, List.getElem_cons_succ, List.setIfInBounds_toArray, List.set_cons_zero, List.set_cons_succ]
        refine wpAnyL_one (i := 5) rfl (by kernel_rfl) (fun KQ hK => ?_)
        go_simp
        refine (HR1.out _ (grow_trans HBO.out (grow_trans q1 (grow_trans q2 (Below.refl _ _).drew)))).mono ?_
        rintro e x3 ⟨rfl, a3⟩
        have d3 := grow_trans d0 a3
        have o3 := ownsH_below HOO.out d3
        refine hK.out _ _ (HS.out _ d3) (fun hHeld => ?_)
        clear hK KQ
        refine wpAnyL_one (i := 6) rfl (by kernel_rfl) (fun KQ hK => ?_)
        have oA := o3.alloc (.cells (B D) 25)
        have dA := grow_trans d3 (grow_alloc x3 (.cells (B D) 25))
        refine step_bsh _ rfl _ rfl D rfl HDK.out.1 ?_
        refine hK.out _ _ (HS.out _ dA) (fun hHeld => ?_)
        clear hK KQ
        refine wpAnyL_one (i := 7) rfl (by kernel_rfl) (fun KQ hK => ?_)
        refine step_appH _ rfl _ _ rfl w3.heap.size _ d (flatH hs) oA rfl x3.heap.size D rfl (Blk.new _ _ _) HDK.out.1 (by omega) (Nat.le_trans (Nat.le_trans HBO.out.size d3.size) (by simp)) ?_
        intro v5 x5 ho5 hg5
        have nb := own_ne oA (HS.out _ dA)
        refine hK.out _ _ ((HS.out _ dA).keptO hg5 nb) (fun hHeld => ?_)
        clear hK KQ
        refine wpAnyL_take (i := 8) (v := .pointer (some ⟨g8, 0, none⟩)) rfl (by kernel_rfl) (by kernel_rfl) (by kernel_rfl) (by kernel_rfl) (by kernel_rfl) (fun _ _ _ h => h) (Or.inl ⟨by rfl, fun w hS => by go_simp⟩) hHeld ?_
        simp only [Act.put, List.getElem_toArray, List.getElem_cons_zero, List.getElem_cons_succ, List.setIfInBounds_toArray, List.set_cons_zero, List.set_cons_succ]
        have hB5 := hHeld
        have hcell := proof_side hB5
        have hfr := hB5.frozen 0
        obtain ⟨sa5, sc5, rfl⟩ := own_slice ho5
        refine wpAnyL_last rfl (by kernel_rfl) (by kernel_rfl) (fun KQ hK => ?_)
        go_simp
        
        refine hK.out _ _ ?_
        clear hK KQ
        have hB6 := blk_side hB5 (.slice sa5 (d + 1) sc5)
        have gr6 := grown_setCell x5 g8 0 (.slice sa5 (d + 1) sc5)
        have ho6 := ho5.kept gr6 (.inr (fun e => own_ne ho5 hB5 e.symm))
        have hb5 : Below w3.heap.size w3 x5 := below_ownH (grow_trans HBO.out dA) oA (Nat.le_refl _) hg5
        have hb6 := below_row hb5 gr6 HG8.out
        rw [← flatH_snoc] at ho6
        have HF6 := hidden (And.intro ho6 (And.intro hB6 hb6))
        generalize x5.setCell ⟨g8, 0, none⟩ (.slice sa5 (d + 1) sc5) = x6 at *
        clear hB5 hcell hfr ho5 hg5 nb hB6 gr6 ho6 hb5 hb6 o3 oA dA hHeld HS
        have hm1 : m1 = (sdL ls d 1).length := by
          obtain ⟨_, _, e, _⟩ := HP1.out
          injection e
        have HMM := hidden hm1
        clear hm1
        go_wp2_with fail
        exact ⟨⟨d + 1, m1, a1, c1, sideOf ed d 1, sdL ls d 1, hs ++ [D], sa5, sc5, by omega, by rw [HMM.out]; exact HNM.out.2.2.2, rfl, by go_num, HMM.out.symm, HP1, ⟨HNM.out.1, HNM.out.2.1, HNM.out.2.2.1⟩, HSTEP, HF6.out.1, HF6.out.2.1, HF6.out.2.2⟩, by simp [intOf]; omega⟩
    · have hle : ed.length ≤ 1 := by
        have h1 := hls.out.2.2.length_eq
        rw [List.length_map] at h1
        have := hml.out
        omega
      obtain ⟨f1, f2⟩ := hst.out.done hle
      have z1 : ¬ (1 : Int) < (m : Int) := by omega
      have hb4 := HD4.out.grow hbw.out
      have HC := hidden (grow_trans HC3.out hbw.out)
      have HO := hidden (own_base hown.out HC3.out.size)
      have n48 : g4 ≠ g8 := Nat.ne_of_lt (Nat.lt_of_lt_of_le HD4.out.lt HG8.out)
      have HHS := hidden hst.out.len
      have F1 := hidden f1
      have F2 := hidden f2
      have HB4' := hidden hb4
      have HBK := hidden hblk.out
      have HOW := hidden hown.out
      have HBW := hidden hbw.out
      clear f1 f2 hb4
      by_cases hm1 : m = 1
      · subst hm1
        obtain ⟨x, hx⟩ : ∃ x, ls = [x] := List.length_eq_one_iff.1 hml.out
        obtain ⟨e, he⟩ : ∃ e, ed = [e] := List.length_eq_one_iff.1 (by
          have h1 := hls.out.2.2.length_eq
          rw [List.length_map] at h1
          have := hml.out
          omega)
        have hxe : x = mkLf e := by
          have h1 := hls.out.2.2
          rw [hx, he] at h1
          simpa using List.singleton_perm_singleton.1 h1
        have hke := hst.out.keys e (by rw [he]; simp)
        obtain ⟨g, off, hla, hrr⟩ : ∃ g off, la = some ⟨g, off, none⟩ ∧ w3.rangeAt g off (encLf x) := by
          obtain ⟨la', lc', e1, _, hr⟩ := hlv.out
          injection e1 with e2 e3 e4
          subst e2
          obtain ⟨g, off, e5, hr⟩ := hr (by rw [hx]; simp)
          have := hr 0 (by rw [hx]; simp)
          rw [hx] at this
          exact ⟨g, off, e5, by simpa using this⟩
        subst hla
        obtain ⟨N, hN⟩ : ∃ N, N = x.ints := ⟨_, rfl⟩
        have HNE : Hid (N = endN (rst 256 0 es key)) := by
          show _ = _
          rw [F2.out, he, hN, hxe, Lf.ints, mkLf_key hke, mkLf_val hke]
          rfl
        have HNL : Hid (N.length = 129) := by rw [hN]; exact x.ints_length
        have HRR : Hid (wr.rangeAt g off (N.map (Value.int .u8))) := by rw [hN]; exact range_grow hrr hbw.out
        have HTH : Hid (wr.there g8 1 (B N).size) := HBK.out.there 1 _ (by rw [B_size, HNL.out]; simp [encR, HZL.out])
        have HIN : Hid ((Tryz.prog.info? 33).map (·.size) = some (N.map (Value.int .u8)).length) := by show _ = _; rw [List.length_map, HNL.out]; exact size_node
        have HIM : Hid ((Tryz.prog.info? 33).map (·.size) = some (B N).size) := by show _ = _; rw [B_size, HNL.out]; exact size_node
        have h8 := blk_end HBK.out N HZL.out HNL.out
        have gr8 := grown_setCells g8 (N.map (Value.int .u8)) 1 wr
        have HK8 := hidden (And.intro h8 (And.intro (HB4'.out.kept gr8 n48) (And.intro (HO.out.kept gr8 (.inr (fun e => own_ne HOW.out HBK.out e.symm))) (below_row HC.out gr8 (Nat.le_trans HC3.out.size HG8.out)))))
        have HBT : Hid ((B N).toList = N.map (Value.int .u8)) := B_toList N
        clear h8 gr8 hxe hN hx he hke hrr hls hst hml hlv hown hblk hbw hle hgt
        go_wp2_with (first
          | ((with_reducible refine at_ldd 53 52 ?_); refine wpList_load_mid rfl 33 _ rfl g off rfl (N.map (Value.int .u8)) _ HRR.out HUN.out rfl HIN.out ?_)
          | ((with_reducible refine at_st 54 ?_); refine wpList_stm _ rfl _ _ _ rfl g8 1 (B N) rfl rfl HTH.out HIM.out (B_one _) ?_; rw [HBT.out]; generalize wr.setCells g8 1 (N.map (Value.int .u8)) = x7 at *)
          | ((with_reducible refine at_ldd 55 8 ?_); refine wpList_lds _ rfl _ _ rfl g8 _ _ rfl HK8.out.1 HUP.out (HSz.out _ N HNL.out).1 ?_)
          | ((with_reducible refine at_st 4 ?_); refine wpList_sto _ rfl _ _ _ rfl g4 _ (encR (.slice sa d sc) N).toArray rfl rfl HK8.out.2.1 (HSz.out _ N HNL.out).1 (HSz.out _ N HNL.out).2 (encR_one _ _ _ _) ?_; intro x8 B9 r9))
        have ho9 := HK8.out.2.2.1.kept r9 (.inr (fun e => own_ne HK8.out.2.2.1 HK8.out.2.1 e.symm))
        exact bodyPost_ret (v := .tuple #[.agg (encR (.slice sa d sc) N).toArray, .int .i64 0]) (results_agg_tmp rfl _ _ g4 _ _ rfl rfl B9 HUP.out (HSz.out _ N HNL.out).1) rfl (HPost.out _ _ _ _ _ hs F1.out HNE.out HHS.out ho9 (below_row HK8.out.2.2.2 r9 HG4.out))
      · have hm0' : m = 0 := by omega
        subst hm0'
        have he : ed = [] := List.eq_nil_of_length_eq_zero (by
          have h1 := hls.out.2.2.length_eq
          rw [List.length_map] at h1
          have := hml.out
          omega)
        have HNE : Hid (Z = endN (rst 256 0 es key)) := by
          show _ = _
          rw [F2.out, he, HZ.out]
          rfl
        clear he hls hst hml hlv hown hblk hbw hle hgt hm1
        go_wp2_with (first
          | ((with_reducible refine at_ldd 55 8 ?_); refine wpList_lds _ rfl _ _ rfl g8 _ _ rfl HBK.out HUP.out (HSz.out _ Z HZL.out).1 ?_)
          | ((with_reducible refine at_st 4 ?_); refine wpList_sto _ rfl _ _ _ rfl g4 _ (encR (.slice sa d sc) Z).toArray rfl rfl HB4'.out (HSz.out _ Z HZL.out).1 (HSz.out _ Z HZL.out).2 (encR_one _ _ _ _) ?_; intro x8 B9 r9))
        have ho9 := HO.out.kept r9 (.inr (fun e => own_ne HO.out HB4'.out e.symm))
        exact bodyPost_ret (v := .tuple #[.agg (encR (.slice sa d sc) Z).toArray, .int .i64 0]) (results_agg_tmp rfl _ _ g4 _ _ rfl rfl B9 HUP.out (HSz.out _ Z HZL.out).1) rfl (HPost.out _ _ _ _ _ hs F1.out HNE.out HHS.out ho9 (below_row HC.out r9 HG4.out))

theorem way_any (v : Value) (V : Nat → Value) (es : List Ent) (key : List Int) (w : World) (hv : PrAt w v V es) (hn : es.length ≤ 140737488355328) (hkey : Key key) (hL : Laid w) :
    Calls Tryz.prog 5 #[v, .agg (B key)] w (WayPost es key w) := by
  by_cases hE : errB es = 0
  · have hl : es.length ≤ 4096 := by
      by_cases h : 4096 < es.length
      · rw [errB, if_pos h] at hE
        omega
      · omega
    exact way_good v V es key w hv hl hE hkey hL
  · exact way_bad v V es key w hv hn hE

end Go.Proofs.YtpihigcnoifcfaaGreatDoor

/- VerifyWays' walk: the law returns true at all entries, keys, digests and values, and nothing that was in memory turns. -/
namespace Go.Proofs.YtpihigcnoifcfaaGreatDoor
set_option maxRecDepth 20000
open Go.RowKit

theorem read_nil (other key : List Int) : rdB other key [] 0 z32 z32 z32 z32 = false ∧ rdV other key [] 0 z32 z32 z32 z32 = z32 ∧ rdE other key [] 0 z32 z32 z32 z32 = 10 ∧ dpN [] = nd 0 z32 z32 z32 z32 := by
  have h : ¬ okD [] := fun h => by have := h.1.1; simp at this
  have h1 : rdB other key [] 0 z32 z32 z32 z32 = false := by simp [rdB, rdA, h]
  exact ⟨h1, by rw [rdV, if_neg (by rw [h1]; simp)], by rw [rdE, if_neg h], by rw [dpN, if_neg h]⟩

/-- Whether a key is among the first entries. -/
def amg (es : List Ent) (key : List Int) (i : Nat) : Bool := (es.take i).any fun e => decide (e.1 = key)
theorem amg_zero (es : List Ent) (key : List Int) : amg es key 0 = false := by simp [amg]
theorem amg_succ {es : List Ent} {key : List Int} {i : Nat} (h : i < es.length) : amg es key (i + 1) = (amg es key i || decide ((es.getD i e00).1 = key)) := by
  unfold amg
  rw [List.take_add_one, List.any_append]
  simp [List.getD, h]
theorem amg_all {es : List Ent} {key : List Int} {k : Int} {a b c d : List Int} (h : WayIs es key k a b c d) {n : Nat} (hn : n = es.length) : amg es key n = vfO key k a := by
  unfold amg
  rw [hn, List.take_length]
  by_cases q : ∃ e ∈ es, e.1 = key
  · obtain ⟨e, he, hk⟩ := q
    have := h.there e he hk
    rw [show vfO key k a = true by simp [vfO, this.1, this.2.1], List.any_eq_true]
    exact ⟨e, he, by simpa using hk⟩
  · rw [h.absent (fun e he hk => q ⟨e, he, hk⟩), List.any_eq_false]
    intro e he hk
    exact q ⟨e, he, by simpa using hk⟩

/-- A literal of two texts. -/
theorem built_two (x y : Option Addr) (l m c e : Nat) : Tryz.prog.built 51 [(0, .slice x l c), (1, .slice y m e)] = some #[.slice x l c, .slice y m e] := by kernel_rfl

set_option maxRecDepth 100000 in
set_option maxHeartbeats 16000000 in
theorem verifyWays_walk (v : Value) (V : Nat → Value) (es : List Ent) (key other : List Int) (u : Value) (ys : List Int) (w : World) (hpr : PrAt w v V es) (hn : es.length ≤ 140737488355328) (hkey : Key key) (hoth : Key other) (hu : Reads w u ys) (hly : ys.length ≤ 140737488355328 - 4096) (hL : Laid w) :
    Calls Tryz.prog 3 #[v, .agg (B key), .agg (B other), u] w fun e w' => e = .returned (.bool true) ∧ Below w.heap.size w w' := by
  have KU := hidden hu.kp
  have KW := hidden (below_kp w)
  have KL := hidden hL.kp
  have hpr0 := hpr
  obtain ⟨va, cap, rfl, hcap, hsm, _⟩ := hpr
  obtain ⟨m, hmm⟩ : ∃ m, m = es.length := ⟨_, rfl⟩
  obtain ⟨fs, hfs⟩ : ∃ fs : List Ent, fs = if 40 < es.length then es.take 40 else es := ⟨_, rfl⟩
  have hfl : fs.length ≤ 40 := by
    rw [hfs]
    split
    · rw [List.length_take]; omega
    · omega
  have hpf : PrAt w (.slice va fs.length cap) V fs := by
    rw [hfs]
    split
    · have h1 := hpr0.take rfl 40 (by omega)
      rwa [show (es.take 40).length = 40 by rw [List.length_take]; omega]
    · exact hpr0
  have KP := hidden hpf.kp
  have hks := hpf.keys
  have HRo : Hid (∀ w', PrAt w' (.slice va fs.length cap) V fs → Laid w' → Calls Tryz.prog 4 #[.slice va fs.length cap] w' fun e w'' => e = .returned (.tuple #[.agg (B (rtH fs)), .int .i64 (errB fs)]) ∧ Below w'.heap.size w' w'') := fun w' h1 h2 => (Root_any _ V fs w' h1 (by omega) h2).mono fun e w'' ⟨h, E, q1, q2, q3⟩ => by
    obtain ⟨rfl, rfl⟩ := rootIs_zero q2
    exact ⟨q1, q3⟩
  have HWy : Hid (∀ w', PrAt w' (.slice va fs.length cap) V fs → Laid w' → Calls Tryz.prog 5 #[.slice va fs.length cap, .agg (B key)] w' fun e w'' => ∃ sa sc, e = .returned (.tuple #[.agg (encR (.slice sa (wyH fs key).length sc) (wyN fs key)).toArray, .int .i64 (errB fs)]) ∧ HsAt w'' (.slice sa (wyH fs key).length sc) (wyH fs key) ∧ Below w'.heap.size w' w'') := fun w' h1 h2 => (way_any _ V fs key w' h1 (by omega) hkey h2).mono fun e w'' ⟨sa, sc, q1, q2, q3⟩ => ⟨sa, sc, q1, hsAt_own (base := w'.heap.size) q2 (wyH_dgs fs key), q3⟩
  have hrl : (rtH fs).length = 32 ∧ Bytes (rtH fs) := by
    unfold rtH
    split
    · exact rt_len _ _ _
    · exact ⟨rfl, z32_bytes⟩
  have hNl : (wyN fs key).length = 129 := by
    obtain ⟨k, a, b, c, d, h1, h2⟩ := wyN_nd fs key hks
    rw [h1]; exact h2.length
  have HSR := hidden (hash_sz (rtH fs) hrl.1)
  have HLR : Hid ((Tryz.prog.info? 25).map (·.size) = some (B (rtH fs)).toList.length) := hash_ln _ hrl.1
  have HSO := hidden (hash_sz other hoth.1)
  have HSk : Hid ((Tryz.prog.info? 24).map (·.size) = some (B key).size) := by show _ = _; rw [B_size, hkey.1]; exact sz_path
  have HLk : Hid ((Tryz.prog.info? 24).map (·.size) = some (B key).toList.length) := path_ln key hkey.1
  obtain ⟨fp, hup⟩ := u_proof
  have HUP := hidden hup
  obtain ⟨fd, hus⟩ := u_said
  have HUS := hidden hus
  have HSP : Hid (∀ s', (Tryz.prog.info? 35).map (·.size) = some (encR s' (wyN fs key)).toArray.size ∧ (encR (.slice none 0 0) (List.replicate 129 0)).toArray.size = (encR s' (wyN fs key)).toArray.size) := fun s' => ⟨encR_sz _ _ hNl, by simp [encR, hNl]⟩
  obtain ⟨n, hnn⟩ : ∃ n, n = fs.length := ⟨_, rfl⟩
  have HNF := hidden hnn
  have hn40 : n ≤ 40 := by omega
  have hRoot : Key (rtH fs) := hrl
  by_cases hE : errB fs = 0
  · obtain ⟨k, a, b, c, d, hW⟩ := wayIs (key := key) hks hE
    have hX := hW.bytes
    have hxb : Bytes (pkE (wyH fs key) k a b c d) := pkE_bytes (wyH_dgs fs key) hW.Nd hW.ok
    have hxl : (pkE (wyH fs key) k a b c d).length ≤ 140737488355328 := by
      have h1 : (wyH fs key).length ≤ 256 := (chE_ok hW.ok).1
      have h2 := hdL_length_le (wyH_dgs fs key) h1
      have h3 := txN_short hW.Nd
      rw [pkE, List.length_append]
      omega
    have HEn : Hid (∀ w' sa sc, HsAt w' (.slice sa (wyH fs key).length sc) (wyH fs key) → Laid w' → Calls Tryz.prog 7 #[.agg (encR (.slice sa (wyH fs key).length sc) (wyN fs key)).toArray] w' fun e w'' => ∃ xa xc, e = .returned (.tuple #[.slice xa (pkE (wyH fs key) k a b c d).length xc, .int .i64 0]) ∧ Reads w'' (.slice xa (pkE (wyH fs key) k a b c d).length xc) (pkE (wyH fs key) k a b c d) ∧ Below w'.heap.size w' w'') := fun w' sa sc h1 h2 => by
      rw [hW.nd]
      refine (enc_yes h1 hW.Nd h2 (X := pkE (wyH fs key) k a b c d) (E := 0) (by rw [exP, if_pos hW.ok]) hW.ok).mono ?_
      rintro e w'' ⟨xa, xc, sp, q1, q2, q3⟩
      exact ⟨xa, xc, q1, q2.reads, q3⟩
    have HPs : Hid (∀ w' x xs xv, Reads w' x xs → Reads w' xv (pkE (wyH fs key) k a b c d) → Laid w' → Calls Tryz.prog 8 #[.agg (B (rtH fs)), .agg (B key), x, xv] w' fun e w'' => e = .returned (.bool (psB (rtH fs) key xs (pkE (wyH fs key) k a b c d) k a b c d)) ∧ Below w'.heap.size w' w'') := fun w' x xs xv h1 h2 h3 => vpresent_any (rtH fs) key x xv xs _ k a b c d w' hRoot hkey h1 h2 hxl h3 hX.n hW.Nd
    have HAb : Hid (∀ w' xv, Reads w' xv (pkE (wyH fs key) k a b c d) → Laid w' → Calls Tryz.prog 12 #[.agg (B (rtH fs)), .agg (B key), xv] w' fun e w'' => e = .returned (.bool (!vfO key k a)) ∧ Below w'.heap.size w' w'') := fun w' xv h2 h3 => by
      have := vabsent_any (rtH fs) key xv _ k a b c d w' hRoot hkey h2 hxl h3 hX.n hW.Nd
      rw [abB, hX.rd, if_pos rfl, hX.own, decide_eq_true rfl, Bool.true_and] at this
      exact this
    have HRe : Hid (∀ w' xv, Reads w' xv (pkE (wyH fs key) k a b c d) → Laid w' → Calls Tryz.prog 6 #[.agg (B other), .agg (B key), xv] w' fun e w'' => e = .returned (.tuple #[.agg (sdP (rdB other key (pkE (wyH fs key) k a b c d) k a b c d) (rdV other key (pkE (wyH fs key) k a b c d) k a b c d)).toArray, .int .i64 (if rtH fs = other then 0 else 11)]) ∧ Below w'.heap.size w' w'') := fun w' xv h2 h3 => by
      have := vread_any other key xv _ k a b c d w' hoth hkey h2 hxl h3 hX.n hW.Nd
      rw [hX.rd] at this
      exact this
    have hvl := rdV_length other key (pkE (wyH fs key) k a b c d) k a b c d hW.Nd.lb
    have HSD := hidden (said_sz (rdB other key (pkE (wyH fs key) k a b c d) k a b c d) (rdV other key (pkE (wyH fs key) k a b c d) k a b c d) hvl)
    have HOn := hidden (said_one (rdB other key (pkE (wyH fs key) k a b c d) k a b c d) (rdV other key (pkE (wyH fs key) k a b c d) k a b c d))
    have hvs : ∀ i, i < fs.length → (fs.getD i e00).2.length ≤ 1024 := fun i hi => by
      have hE2 := hE
      rw [errB, if_neg (by omega)] at hE2
      have := (lsE_ok [] fs hE2).1 (fs.getD i e00) (by rw [List.getD_eq_getElem?_getD, List.getElem?_eq_getElem hi]; exact List.getElem_mem hi)
      exact this
    -- what a round needs
    have HPi : Hid (∀ i, i < n → (fs.getD i e00).1 = key → psB (rtH fs) key (fs.getD i e00).2 (pkE (wyH fs key) k a b c d) k a b c d = true ∧ (psB (rtH fs) key ys (pkE (wyH fs key) k a b c d) k a b c d = true → vaD ys = vaD (fs.getD i e00).2)) := fun i hi hk => by
      have hi' : i < fs.length := by omega
      have hm : fs.getD i e00 ∈ fs := by rw [List.getD_eq_getElem?_getD, List.getElem?_eq_getElem hi']; exact List.getElem_mem hi'
      obtain ⟨h1, h2, h3⟩ := hW.there _ hm hk
      have ho : vfO key k a = true := by simp [vfO, h1, h2]
      have hv := hX.val ho
      refine ⟨?_, fun q => ?_⟩
      · rw [psB, hX.own, ho, hv, h3, decide_eq_true (hvs i hi'), decide_eq_true rfl]
        rfl
      · rw [psB, hX.own, ho, hv, h3] at q
        simp only [Bool.true_and, Bool.and_eq_true, decide_eq_true_eq] at q
        exact q.2.symm
    have HAl : Hid (amg fs key n = vfO key k a) := amg_all hW hnn
    have hqO : ∀ w, (Op.equalIn 10000 25 (.agg (B other)) (.agg (B (rtH fs)))).run Tryz.prog w = .ok (decide (other = rtH fs)) w := hash_eq other _ hoth.1 hrl.1
    have HEO : Hid (¬ other = rtH fs → (if rtH fs = other then (0 : Int) else 11) = 11) := fun q => if_neg (fun e => q e.symm)
    have hqk : ∀ i, i < n → ∀ w, (Op.equalIn 10000 24 (.agg (B (fs.getD i e00).1)) (.agg (B key))).run Tryz.prog w = .ok (decide ((fs.getD i e00).1 = key)) w := fun i hi => path_eq _ key (hks _ (by rw [List.getD_eq_getElem?_getD, List.getElem?_eq_getElem (by omega)]; exact List.getElem_mem _)).1 hkey.1
    have HQK := hidden hqk
    have HKl : Hid (∀ i, i < n → (fs.getD i e00).1.length = 32 ∧ (fs.getD i e00).2.length ≤ 1024) := fun i hi => ⟨(hks _ (by rw [List.getD_eq_getElem?_getD, List.getElem?_eq_getElem (by omega)]; exact List.getElem_mem _)).1, hvs i (by omega)⟩
    have HLy : Hid (ys.length ≤ 140737488355328 - 4096) := hly
    have HVT : Hid (∀ w' x xs, Reads w' x xs → xs.length ≤ 140737488355328 - 4096 → Calls Tryz.prog 11 #[x] w' fun e w'' => ∃ ta tl tc, e = .returned (.slice ta tl tc) ∧ Reads w'' (.slice ta tl tc) (3 :: xs) ∧ Below w'.heap.size w' w'') := fun w' x xs h1 h2 => (valueText_any x xs w' h1 (by omega)).mono fun e w'' ⟨tv, sp, q1, q2, q3⟩ => by
      have q4 := q2.reads
      obtain ⟨ta, tc, e2, _⟩ := q4
      subst e2
      exact ⟨ta, _, tc, q1, q2.reads, q3⟩
    have HCl : Hid (∀ w' x y xs xt, Reads w' x (3 :: xs) → Reads w' y (3 :: xt) → Laid w' → xs.length ≤ 140737488355328 - 4096 → xt.length ≤ 140737488355328 - 4096 → vaD xs = vaD xt → xs ≠ xt → Calls Tryz.prog 10 #[.agg #[x, y]] w' fun e w'' => e = .returned (.bool true) ∧ Below w'.heap.size w' w'') := fun w' x y xs xt h1 h2 h3 h4 h5 h6 h7 => by
      have := clash_any x y (3 :: xs) (3 :: xt) w' h1 h2 h3 (by simp only [List.length_cons]; omega) (by simp only [List.length_cons]; omega)
      rw [show (!decide ((3 : Int) :: xs = 3 :: xt) && decide (dig (3 :: xs) = dig (3 :: xt))) = true by simp [h7]; exact h6] at this
      exact this
    have HSm : Hid (∀ w' x y xs xt, Reads w' x xs → Reads w' y xt → Calls Tryz.prog 9 #[x, y] w' fun e w'' => e = .returned (.bool (decide (xs = xt))) ∧ w'' = w') := fun w' x y xs xt h1 h2 => same_any x y xs xt w' h1 h2
    rw [hE] at HRo HWy
    have HPF : Hid (∀ w' i, PrAt w' (.slice va fs.length cap) V fs → i < n → ∃ lb off ua uc, va = some ⟨lb, off, none⟩ ∧ V i = .slice ua (fs.getD i e00).2.length uc ∧ w'.rangeAt lb (off + i * 33) (encP (fs.getD i e00).1 (V i)) ∧ Reads w' (V i) (fs.getD i e00).2) := fun w' i h hi => by
      obtain ⟨a', c', e', _, h2, h3⟩ := h
      injection e' with e1 e2 e3
      obtain ⟨g, o, q1, q2⟩ := h2 (by omega)
      have q3 := (h3 i (by omega)).2
      obtain ⟨ua, uc, q4, _⟩ := id q3
      exact ⟨g, o, ua, uc, by rw [e1, q1], q4, q2 i (by omega), q3⟩
    obtain ⟨ua, uc, rfl, _⟩ := hu
    obtain ⟨ul, hul⟩ : ∃ ul, ul = ys.length := ⟨_, rfl⟩
    rw [← hul] at KU ⊢
    obtain ⟨sl, hsl⟩ : ∃ sl, sl = (wyH fs key).length := ⟨_, rfl⟩
    rw [← hsl] at HWy HEn
    obtain ⟨hz40, hfcase⟩ : (40 < m → n = 40) ∧ (¬ 40 < m → n = m) := by
      constructor
      · intro q; rw [hnn, hfs, if_pos (by omega), List.length_take]; omega
      · intro q; rw [hnn, hfs, if_neg (by omega), hmm]
    rw [← hmm]
    rw [← hnn] at KP HRo HWy HPF
    rw [← hmm] at hcap hsm
    clear hvl hul hsl hvs hqk hE hX hW hxb hxl hly hnn hks hkey hoth hL hup hus hrl hNl hRoot hfs hfl hpf hpr0 hn
    generalize pkE (wyH fs key) k a b c d = X at *
    generalize (sdP (rdB other key X k a b c d) (rdV other key X k a b c d)).toArray = SD at *
    generalize wyN fs key = N at *
    generalize wyH fs key = HW at *
    obtain ⟨L, hLL⟩ : ∃ L, L = X.length := ⟨_, rfl⟩
    rw [← hLL] at HEn
    clear hLL hmm
    generalize rtH fs = R at *
    generalize vfO key k a = O at *
    have hn2 : n ≤ 40 := hn40
    by_cases h40 : 40 < m
    · obtain rfl : n = 40 := hz40 h40
      have z40 : (40 : Int) < (m : Int) := by omega
      have kd0 : (0 : Int) ≤ (40 : Int) := by omega
      have kd1 : ¬ (cap : Int) < (40 : Int) := by omega
      have kd2 : (40 : Int) ≤ (cap : Int) := by omega
      obtain ⟨lb, off, hva, _⟩ := hsm (by omega)
      subst hva
      clear hz40 hfcase h40 hsm hcap
      go_enter Tryz.func3, Tryz.ntmps3
      go_wp2_with (first
        | ((with_reducible refine at_bxd 5 ?_); refine wpList_bx _ rfl _ _ rfl _ rfl ?_; intro x1 g5 hg1 hl1 bq1 q1; replace KU := hidden (KU.out.step q1); replace KW := hidden (KW.out.step q1); replace KL := hidden (KL.out.step q1); replace KP := hidden (KP.out.step q1); have K5 := hidden bq1.kp; clear hg1 hl1 bq1 q1)
        | ((with_reducible refine at_bxd 6 ?_); refine wpList_bx _ rfl _ _ rfl _ rfl ?_; intro x2 g6 hg2 hl2 bq2 q2; replace KU := hidden (KU.out.step q2); replace KW := hidden (KW.out.step q2); replace KL := hidden (KL.out.step q2); replace KP := hidden (KP.out.step q2); replace K5 := hidden (K5.out.step q2); have K6 := hidden bq2.kp; clear hg2 hl2 bq2 q2)
        | ((with_reducible refine at_ald 9 ?_); refine wpList_al _ rfl _ rfl _ zero_hash ?_; intro x4 g9 hg9 hl4 bq4 q4; clear hl4)
        | ((with_reducible refine at_st 9 ?_); refine wpList_sto _ rfl _ _ _ rfl g9 _ ((B R)) rfl rfl bq4 HSR.out.1 HSR.out.2 (B_one _) ?_; intro x5 by5 r5; have q5 := below_row q4 r5 hg9; replace KU := hidden (KU.out.step q5); replace KW := hidden (KW.out.step q5); replace KL := hidden (KL.out.step q5); replace KP := hidden (KP.out.step q5); replace K5 := hidden (K5.out.step q5); replace K6 := hidden (K6.out.step q5); have K9 := hidden by5.kp; clear q5 q4 r5 by5 bq4 hg9)
        | ((with_reducible refine at_ldd 33 5 ?_); refine wpList_ld _ rfl _ _ rfl g5 _ rfl K5.out.now _ _ Tryz.underlying24 HSk.out ?_)
        | ((with_reducible refine at_ald 11 ?_); refine wpList_al _ rfl _ rfl _ zero_proof ?_; intro x7 g11 hg11 hl7 bq7 q7; clear hl7)
        | ((with_reducible refine at_st 11 ?_); refine wpList_sto _ rfl _ _ _ rfl g11 _ ((encR (.slice sa sl sc) N).toArray) rfl rfl bq7 (HSP.out _).1 (HSP.out _).2 (encR_one _ _ _ _) ?_; intro x8 by8 r8; have q8 := below_row q7 r8 hg11; replace KU := hidden (KU.out.step q8); replace KW := hidden (KW.out.step q8); replace KL := hidden (KL.out.step q8); replace KP := hidden (KP.out.step q8); replace K5 := hidden (K5.out.step q8); replace K6 := hidden (K6.out.step q8); replace K9 := hidden (K9.out.step q8); replace KQ := hidden (KQ.out.step q8); have K11 := hidden by8.kp; clear q8 q7 r8 by8 bq7 hg11)
        | ((with_reducible refine at_ldd 57 11 ?_); refine wpList_lds _ rfl _ _ rfl g11 _ _ rfl K11.out.now HUP.out (HSP.out _).1 ?_)
        | (go_at_call 7; refine (HEn.out _ _ _ KQ.out.now KL.out.now).mono ?_; rintro e x9 ⟨xa, xc, rfl, hx, q9⟩; replace KU := hidden (KU.out.step q9); replace KW := hidden (KW.out.step q9); replace KL := hidden (KL.out.step q9); replace KP := hidden (KP.out.step q9); replace K5 := hidden (K5.out.step q9); replace K6 := hidden (K6.out.step q9); replace K9 := hidden (K9.out.step q9); replace KQ := hidden (KQ.out.step q9); replace K11 := hidden (K11.out.step q9); have KX := hidden hx.kp; clear hx; have mk_fpackEncode_1 : Hid True := trivial; clear q9)
        | (go_at_call 5; refine (HWy.out _ KP.out.now KL.out.now).mono ?_; rintro e x6 ⟨sa, sc, rfl, hq, q6⟩; replace KU := hidden (KU.out.step q6); replace KW := hidden (KW.out.step q6); replace KL := hidden (KL.out.step q6); replace KP := hidden (KP.out.step q6); replace K5 := hidden (K5.out.step q6); replace K6 := hidden (K6.out.step q6); replace K9 := hidden (K9.out.step q6); have KQ := hidden hq.kp; clear hq; have mk_fnodeWay_1 : Hid True := trivial; clear q6)
        | (go_at_call 4; refine (HRo.out _ KP.out.now KL.out.now).mono ?_; rintro e x3 ⟨rfl, q3⟩; replace KU := hidden (KU.out.step q3); replace KW := hidden (KW.out.step q3); replace KL := hidden (KL.out.step q3); replace KP := hidden (KP.out.step q3); replace K5 := hidden (K5.out.step q3); replace K6 := hidden (K6.out.step q3); have mk_fnodeRoot_1 : Hid True := trivial; clear q3))
      go_loopw [17, 18] (fun xv iv wr => ∃ (i : Nat) (th : Bool), i ≤ 40 ∧ xv = .bool th ∧ iv = .int .i64 (i : Int) ∧ Hid (th = amg fs key i) ∧ Hid (Below x9.heap.size x9 wr)) (fun _ iv _ => 40 - (intOf iv).toNat)
      case atStart => exact ⟨0, false, by omega, rfl, rfl, (amg_zero fs key).symm, Below.refl _ _⟩
      case round =>
        obtain ⟨i, th, hi, rfl, rfl, hth, hb⟩ := hrel
        replace KU := hidden (KU.out.step hb.out)
        replace KW := hidden (KW.out.step hb.out)
        replace KL := hidden (KL.out.step hb.out)
        replace KP := hidden (KP.out.step hb.out)
        replace K5 := hidden (K5.out.step hb.out)
        replace K6 := hidden (K6.out.step hb.out)
        replace K9 := hidden (K9.out.step hb.out)
        replace KQ := hidden (KQ.out.step hb.out)
        replace K11 := hidden (K11.out.step hb.out)
        replace KX := hidden (KX.out.step hb.out)
        by_cases hlt : i < 40
        · have z1 : (i : Int) < (40 : Int) := by omega
          have z0 : (0 : Int) ≤ (i : Int) := by omega
          obtain ⟨lb, off, pa, pc, hva, hVi, _, _⟩ := HPF.out _ i KP.out.now hlt
          injection hva with hva
          injection hva with e1 e2
          subst e1 e2
          have HRG : Hid (∀ w', Below wr.heap.size wr w' → w'.rangeAt lb (off + i * 33) (encP (fs.getD i e00).1 (.slice pa (fs.getD i e00).2.length pc))) := fun w' h => by
            obtain ⟨lb', off', _, _, e1, _, e2, _⟩ := HPF.out w' i (KP.out _ h) hlt
            injection e1 with e1
            injection e1 with e3 e4
            subst e3 e4
            rwa [hVi] at e2
          have HRD : Hid (∀ w', Below wr.heap.size wr w' → Reads w' (.slice pa (fs.getD i e00).2.length pc) (fs.getD i e00).2) := fun w' h => by
            obtain ⟨_, _, _, _, _, _, _, e2⟩ := HPF.out w' i (KP.out _ h) hlt
            rwa [hVi] at e2
          have HK32 : Hid ((fs.getD i e00).1.length = 32) := (HKl.out i hlt).1
          have HVL : Hid ((fs.getD i e00).2.length ≤ 140737488355328 - 4096) := by have := (HKl.out i hlt).2; show _ ≤ _; omega
          have HKL : Hid ((Tryz.prog.info? 24).map (·.size) = some (B (fs.getD i e00).1).toList.length) := path_ln _ HK32.out
          have hqi := HQK.out i hlt
          have hPi := HPi.out i hlt
          have HAM : Hid (∀ x, x = decide ((fs.getD i e00).1 = key) → (th || x) = amg fs key (i + 1)) := fun x hx => by rw [amg_succ (by have := HNF.out; omega), ← hth.out, hx]
          have HPs1 : Hid (∀ w' x xv, Reads w' x (fs.getD i e00).2 → Reads w' xv X → Laid w' → Calls Tryz.prog 8 #[.agg (B R), .agg (B key), x, xv] w' fun e w'' => e = .returned (.bool (psB R key (fs.getD i e00).2 X k a b c d)) ∧ Below w'.heap.size w' w'') := fun w' x xv => HPs.out w' x _ xv
          have HPs2 : Hid (∀ w' x xv, Reads w' x ys → Reads w' xv X → Laid w' → Calls Tryz.prog 8 #[.agg (B R), .agg (B key), x, xv] w' fun e w'' => e = .returned (.bool (psB R key ys X k a b c d)) ∧ Below w'.heap.size w' w'') := fun w' x xv => HPs.out w' x _ xv
          have HSm1 : Hid (∀ w' x y, Reads w' x ys → Reads w' y (fs.getD i e00).2 → Calls Tryz.prog 9 #[x, y] w' fun e w'' => e = .returned (.bool (decide (ys = (fs.getD i e00).2))) ∧ w'' = w') := fun w' x y => HSm.out w' x y _ _
          have hCl1 : ys ≠ (fs.getD i e00).2 → vaD ys = vaD (fs.getD i e00).2 → ∀ w' x y, Reads w' x (3 :: ys) → Reads w' y (3 :: (fs.getD i e00).2) → Laid w' → Calls Tryz.prog 10 #[.agg #[x, y]] w' fun e w'' => e = .returned (.bool true) ∧ Below w'.heap.size w' w'' := fun q1 q2 w' x y h1 h2 h3 => HCl.out w' x y _ _ h1 h2 h3 HLy.out HVL.out q2 q1
          clear HPs HSm HCl hVi HQK HKl HPi HPF
          generalize (fs.getD i e00).1 = Ki at *
          generalize (fs.getD i e00).2 = bi at *
          obtain ⟨pl, hpl⟩ : ∃ pl, pl = bi.length := ⟨_, rfl⟩
          rw [← hpl] at HRG HRD
          clear hpl
          by_cases hkk : Ki = key
          · have hdk : decide (Ki = key) = true := decide_eq_true hkk
            obtain ⟨hp1, hp2⟩ := hPi hkk
            replace HAM := hidden (HAM.out true hdk.symm)
            rw [hdk] at hqi
            rw [Bool.or_true] at HAM
            rw [hp1] at HPs1
            clear hPi hp1 hkk hdk
            go_wp2
            refine wp_region_held_drew (S := fun w' => Below wr.heap.size wr w') (by kernel_rfl) (below_drewN (Below.refl _ _) 1) (fun hHeld => ?_)
            refine wpAnyH_take (i := 0) (v := .slice (some ⟨lb, off, none⟩) 40 cap) rfl (by kernel_rfl) (by kernel_rfl) (by kernel_rfl) (fun _ _ _ h => h) (Or.inl ⟨by rfl, fun w hS => by go_simp⟩) hHeld ?_
            simp only [Act.put, List.getElem_toArray, List.getElem_cons_zero, List.setIfInBounds_toArray, List.set_cons_zero, List.set_cons_succ]
            refine wpAnyH_take (i := 1) (v := .int .i64 (i : Int)) rfl (by kernel_rfl) (by kernel_rfl) (by kernel_rfl) (fun _ _ _ h => h) (Or.inl ⟨by rfl, fun w hS => by go_simp⟩) hHeld ?_
            simp only [Act.put, List.getElem_toArray, List.getElem_cons_zero, List.getElem_cons_succ, List.setIfInBounds_toArray, List.set_cons_zero, List.set_cons_succ]
            refine wpAnyH_take (i := 2) (v := .pointer (some ⟨lb, off + i * 33, none⟩)) rfl (by kernel_rfl) (by kernel_rfl) (by kernel_rfl) (fun _ _ _ h => h) (Or.inl ⟨by rfl, fun w hS => by go_simp⟩) hHeld ?_
            simp only [Act.put, List.getElem_toArray, List.getElem_cons_zero, List.getElem_cons_succ, List.setIfInBounds_toArray, List.set_cons_zero, List.set_cons_succ]
            refine wpAnyH_take (i := 3) (v := .pointer (some ⟨lb, off + i * 33, none⟩)) rfl (by kernel_rfl) (by kernel_rfl) (by kernel_rfl) (fun _ _ _ h => h) (Or.inl ⟨by rfl, fun w hS => by go_simp⟩) hHeld ?_
            simp only [Act.put, List.getElem_toArray, List.getElem_cons_zero, List.getElem_cons_succ, List.setIfInBounds_toArray, List.set_cons_zero, List.set_cons_succ]
            refine wpAnyH_take (i := 4) (v := .agg (B Ki)) rfl (by kernel_rfl) (by kernel_rfl) (by kernel_rfl) (fun _ _ _ h => h) (yieldsIf_load_mid rfl 24 (.tmp 72) rfl lb (off + i * 33) rfl (B Ki).toList _ (fun w hS => rng_key (HRG.out _ hS)) Tryz.underlying24 rfl HKL.out) hHeld ?_
            simp only [Act.put, List.getElem_toArray, List.getElem_cons_zero, List.getElem_cons_succ, List.setIfInBounds_toArray, List.set_cons_zero, List.set_cons_succ]
            refine wpAnyH_take (i := 5) (v := .agg (B key)) rfl (by kernel_rfl) (by kernel_rfl) (by kernel_rfl) (fun _ _ _ h => h) (yieldsIf_load_mid rfl 24 (.tmp 5) rfl g5 (0) rfl (B key).toList _ (fun w hS => (K5.out _ hS).range) Tryz.underlying24 rfl HLk.out) hHeld ?_
            simp only [Act.put, List.getElem_toArray, List.getElem_cons_zero, List.getElem_cons_succ, List.setIfInBounds_toArray, List.set_cons_zero, List.set_cons_succ]
            refine wpAnyH_take (i := 6) (v := .bool true) rfl (by kernel_rfl) (by kernel_rfl) (by kernel_rfl) (fun _ _ _ h => h) (Or.inl ⟨by rfl, fun w hS => by go_simp⟩) hHeld ?_
            simp only [Act.put, List.getElem_toArray, List.getElem_cons_zero, List.getElem_cons_succ, List.setIfInBounds_toArray, List.set_cons_zero, List.set_cons_succ]
            refine wpAnyH_done (by kernel_rfl) ?_ _
            go_wp2
            by_cases hps : psB R key ys X k a b c d = true
            · rw [hps] at HPs2
              have hvv := hp2 hps
              clear hp2 hps
              by_cases hsm : ys = bi
              · rw [decide_eq_true hsm] at HSm1
                clear hCl1 hsm hvv
                refine wp_region_held_drew (S := fun w' => Below wr.heap.size wr w') (by kernel_rfl) (below_drewN hHeld 1) (fun hHeld => ?_)
                refine wpAnyH_take (i := 0) (v := .agg (B R)) rfl (by kernel_rfl) (by kernel_rfl) (by kernel_rfl) (fun _ _ _ h => h) (yieldsIf_load_mid rfl 25 (.tmp 9) rfl g9 (0) rfl (B R).toList _ (fun w hS => (K9.out _ hS).range) Tryz.underlying25 rfl HLR.out) hHeld ?_
                simp only [Act.put, List.getElem_toArray, List.getElem_cons_zero, List.setIfInBounds_toArray, List.set_cons_zero, List.set_cons_succ]
                refine wpAnyH_take (i := 1) (v := .agg (B key)) rfl (by kernel_rfl) (by kernel_rfl) (by kernel_rfl) (fun _ _ _ h => h) (yieldsIf_load_mid rfl 24 (.tmp 5) rfl g5 (0) rfl (B key).toList _ (fun w hS => (K5.out _ hS).range) Tryz.underlying24 rfl HLk.out) hHeld ?_
                simp only [Act.put, List.getElem_toArray, List.getElem_cons_zero, List.getElem_cons_succ, List.setIfInBounds_toArray, List.set_cons_zero, List.set_cons_succ]
                refine wpAnyH_take (i := 2) (v := .slice (some ⟨lb, off, none⟩) 40 cap) rfl (by kernel_rfl) (by kernel_rfl) (by kernel_rfl) (fun _ _ _ h => h) (Or.inl ⟨by rfl, fun w hS => by go_simp⟩) hHeld ?_
                simp only [Act.put, List.getElem_toArray, List.getElem_cons_zero, List.getElem_cons_succ, List.setIfInBounds_toArray, List.set_cons_zero, List.set_cons_succ]
                refine wpAnyH_take (i := 3) (v := .int .i64 (i : Int)) rfl (by kernel_rfl) (by kernel_rfl) (by kernel_rfl) (fun _ _ _ h => h) (Or.inl ⟨by rfl, fun w hS => by go_simp⟩) hHeld ?_
                simp only [Act.put, List.getElem_toArray, List.getElem_cons_zero, List.getElem_cons_succ, List.setIfInBounds_toArray, List.set_cons_zero, List.set_cons_succ]
                refine wpAnyH_take (i := 4) (v := .pointer (some ⟨lb, off + i * 33, none⟩)) rfl (by kernel_rfl) (by kernel_rfl) (by kernel_rfl) (fun _ _ _ h => h) (Or.inl ⟨by rfl, fun w hS => by go_simp⟩) hHeld ?_
                simp only [Act.put, List.getElem_toArray, List.getElem_cons_zero, List.getElem_cons_succ, List.setIfInBounds_toArray, List.set_cons_zero, List.set_cons_succ]
                refine wpAnyH_take (i := 5) (v := .pointer (some ⟨lb, off + i * 33 + 32, none⟩)) rfl (by kernel_rfl) (by kernel_rfl) (by kernel_rfl) (fun _ _ _ h => h) (Or.inl ⟨by rfl, fun w hS => by go_simp⟩) hHeld ?_
                simp only [Act.put, List.getElem_toArray, List.getElem_cons_zero, List.getElem_cons_succ, List.setIfInBounds_toArray, List.set_cons_zero, List.set_cons_succ]
                refine wpAnyH_take (i := 6) (v := .slice pa pl pc) rfl (by kernel_rfl) (by kernel_rfl) (by kernel_rfl) (fun _ _ _ h => h) (Or.inl ⟨by rfl, fun w hS => by (have q1 := rng_val (HRG.out _ hS) HK32.out; go_simp)⟩) hHeld ?_
                simp only [Act.put, List.getElem_toArray, List.getElem_cons_zero, List.getElem_cons_succ, List.setIfInBounds_toArray, List.set_cons_zero, List.set_cons_succ]
                refine wpAnyH_take (i := 7) (v := .slice xa L xc) rfl (by kernel_rfl) (by kernel_rfl) (by kernel_rfl) (fun _ _ _ h => h) (Or.inl ⟨by rfl, fun w hS => by go_simp⟩) hHeld ?_
                simp only [Act.put, List.getElem_toArray, List.getElem_cons_zero, List.getElem_cons_succ, List.setIfInBounds_toArray, List.set_cons_zero, List.set_cons_succ]
                refine wpAnyH_ready (rs := [8]) (by kernel_rfl) (by simp) ?_
                refine AllReadyH.cons rfl (fun KQ hK => ?_) AllReadyH.nil
                go_simp
                refine (HPs1.out _ _ _ (HRD.out _ hHeld) (KX.out _ hHeld) (KL.out _ hHeld)).mono ?_
                rintro e y1 ⟨rfl, a1⟩
                refine hK.out _ _ (grow_trans hHeld a1) (fun hHeld => ?_)
                clear hK KQ
                refine wpAnyH_take (i := 9) (v := .bool false) rfl (by kernel_rfl) (by kernel_rfl) (by kernel_rfl) (fun _ _ _ h => h) (Or.inl ⟨by rfl, fun w hS => by go_simp⟩) hHeld ?_
                simp only [Act.put, List.getElem_toArray, List.getElem_cons_zero, List.getElem_cons_succ, List.setIfInBounds_toArray, List.set_cons_zero, List.set_cons_succ]
                refine wpAnyH_take (i := 10) (v := .bool false) rfl (by kernel_rfl) (by kernel_rfl) (by kernel_rfl) (fun _ _ _ h => h) (Or.inl ⟨by rfl, fun w hS => by go_simp⟩) hHeld ?_
                simp only [Act.put, List.getElem_toArray, List.getElem_cons_zero, List.getElem_cons_succ, List.setIfInBounds_toArray, List.set_cons_zero, List.set_cons_succ]
                refine wpAnyH_take (i := 11) (v := .agg (B R)) rfl (by kernel_rfl) (by kernel_rfl) (by kernel_rfl) (fun _ _ _ h => h) (yieldsIf_load_mid rfl 25 (.tmp 9) rfl g9 (0) rfl (B R).toList _ (fun w hS => (K9.out _ hS).range) Tryz.underlying25 rfl HLR.out) hHeld ?_
                simp only [Act.put, List.getElem_toArray, List.getElem_cons_zero, List.getElem_cons_succ, List.setIfInBounds_toArray, List.set_cons_zero, List.set_cons_succ]
                refine wpAnyH_take (i := 12) (v := .agg (B key)) rfl (by kernel_rfl) (by kernel_rfl) (by kernel_rfl) (fun _ _ _ h => h) (yieldsIf_load_mid rfl 24 (.tmp 5) rfl g5 (0) rfl (B key).toList _ (fun w hS => (K5.out _ hS).range) Tryz.underlying24 rfl HLk.out) hHeld ?_
                simp only [Act.put, List.getElem_toArray, List.getElem_cons_zero, List.getElem_cons_succ, List.setIfInBounds_toArray, List.set_cons_zero, List.set_cons_succ]
                refine wpAnyH_take (i := 13) (v := .slice ua ul uc) rfl (by kernel_rfl) (by kernel_rfl) (by kernel_rfl) (fun _ _ _ h => h) (Or.inl ⟨by rfl, fun w hS => by go_simp⟩) hHeld ?_
                simp only [Act.put, List.getElem_toArray, List.getElem_cons_zero, List.getElem_cons_succ, List.setIfInBounds_toArray, List.set_cons_zero, List.set_cons_succ]
                refine wpAnyH_take (i := 14) (v := .slice xa L xc) rfl (by kernel_rfl) (by kernel_rfl) (by kernel_rfl) (fun _ _ _ h => h) (Or.inl ⟨by rfl, fun w hS => by go_simp⟩) hHeld ?_
                simp only [Act.put, List.getElem_toArray, List.getElem_cons_zero, List.getElem_cons_succ, List.setIfInBounds_toArray, List.set_cons_zero, List.set_cons_succ]
                refine wpAnyH_ready (rs := [15]) (by kernel_rfl) (by simp) ?_
                refine AllReadyH.cons rfl (fun KQ hK => ?_) AllReadyH.nil
                go_simp
                refine (HPs2.out _ _ _ (KU.out _ hHeld) (KX.out _ hHeld) (KL.out _ hHeld)).mono ?_
                rintro e y2 ⟨rfl, a2⟩
                refine hK.out _ _ (grow_trans hHeld a2) (fun hHeld => ?_)
                clear hK KQ
                refine wpAnyH_take (i := 16) (v := .bool true) rfl (by kernel_rfl) (by kernel_rfl) (by kernel_rfl) (fun _ _ _ h => h) (Or.inl ⟨by rfl, fun w hS => by go_simp⟩) hHeld ?_
                simp only [Act.put, List.getElem_toArray, List.getElem_cons_zero, List.getElem_cons_succ, List.setIfInBounds_toArray, List.set_cons_zero, List.set_cons_succ]
                refine wpAnyH_take (i := 17) (v := .slice ua ul uc) rfl (by kernel_rfl) (by kernel_rfl) (by kernel_rfl) (fun _ _ _ h => h) (Or.inl ⟨by rfl, fun w hS => by go_simp⟩) hHeld ?_
                simp only [Act.put, List.getElem_toArray, List.getElem_cons_zero, List.getElem_cons_succ, List.setIfInBounds_toArray, List.set_cons_zero, List.set_cons_succ]
                refine wpAnyH_take (i := 18) (v := .slice (some ⟨lb, off, none⟩) 40 cap) rfl (by kernel_rfl) (by kernel_rfl) (by kernel_rfl) (fun _ _ _ h => h) (Or.inl ⟨by rfl, fun w hS => by go_simp⟩) hHeld ?_
                simp only [Act.put, List.getElem_toArray, List.getElem_cons_zero, List.getElem_cons_succ, List.setIfInBounds_toArray, List.set_cons_zero, List.set_cons_succ]
                refine wpAnyH_take (i := 19) (v := .int .i64 (i : Int)) rfl (by kernel_rfl) (by kernel_rfl) (by kernel_rfl) (fun _ _ _ h => h) (Or.inl ⟨by rfl, fun w hS => by go_simp⟩) hHeld ?_
                simp only [Act.put, List.getElem_toArray, List.getElem_cons_zero, List.getElem_cons_succ, List.setIfInBounds_toArray, List.set_cons_zero, List.set_cons_succ]
                refine wpAnyH_take (i := 20) (v := .pointer (some ⟨lb, off + i * 33, none⟩)) rfl (by kernel_rfl) (by kernel_rfl) (by kernel_rfl) (fun _ _ _ h => h) (Or.inl ⟨by rfl, fun w hS => by go_simp⟩) hHeld ?_
                simp only [Act.put, List.getElem_toArray, List.getElem_cons_zero, List.getElem_cons_succ, List.setIfInBounds_toArray, List.set_cons_zero, List.set_cons_succ]
                refine wpAnyH_take (i := 21) (v := .pointer (some ⟨lb, off + i * 33 + 32, none⟩)) rfl (by kernel_rfl) (by kernel_rfl) (by kernel_rfl) (fun _ _ _ h => h) (Or.inl ⟨by rfl, fun w hS => by go_simp⟩) hHeld ?_
                simp only [Act.put, List.getElem_toArray, List.getElem_cons_zero, List.getElem_cons_succ, List.setIfInBounds_toArray, List.set_cons_zero, List.set_cons_succ]
                refine wpAnyH_take (i := 22) (v := .slice pa pl pc) rfl (by kernel_rfl) (by kernel_rfl) (by kernel_rfl) (fun _ _ _ h => h) (Or.inl ⟨by rfl, fun w hS => by (have q1 := rng_val (HRG.out _ hS) HK32.out; go_simp)⟩) hHeld ?_
                simp only [Act.put, List.getElem_toArray, List.getElem_cons_zero, List.getElem_cons_succ, List.setIfInBounds_toArray, List.set_cons_zero, List.set_cons_succ]
                refine wpAnyH_ready (rs := [23]) (by kernel_rfl) (by simp) ?_
                refine AllReadyH.cons rfl (fun KQ hK => ?_) AllReadyH.nil
                go_simp
                refine (HSm1.out _ _ _ (KU.out _ hHeld) (HRD.out _ hHeld)).mono ?_
                rintro e y3 ⟨rfl, rfl⟩
                refine hK.out _ _ (hHeld) (fun hHeld => ?_)
                clear hK KQ
                refine wpAnyH_take (i := 24) (v := .bool false) rfl (by kernel_rfl) (by kernel_rfl) (by kernel_rfl) (fun _ _ _ h => h) (Or.inl ⟨by rfl, fun w hS => by go_simp⟩) hHeld ?_
                simp only [Act.put, List.getElem_toArray, List.getElem_cons_zero, List.getElem_cons_succ, List.setIfInBounds_toArray, List.set_cons_zero, List.set_cons_succ]
                refine wpAnyH_take (i := 25) (v := .bool false) rfl (by kernel_rfl) (by kernel_rfl) (by kernel_rfl) (fun _ _ _ h => h) (Or.inl ⟨by rfl, fun w hS => by go_simp⟩) hHeld ?_
                simp only [Act.put, List.getElem_toArray, List.getElem_cons_zero, List.getElem_cons_succ, List.setIfInBounds_toArray, List.set_cons_zero, List.set_cons_succ]
                refine wpAnyH_take (i := 26) (v := .bool false) rfl (by kernel_rfl) (by kernel_rfl) (by kernel_rfl) (fun _ _ _ h => h) (Or.inl ⟨by rfl, fun w hS => by go_simp⟩) hHeld ?_
                simp only [Act.put, List.getElem_toArray, List.getElem_cons_zero, List.getElem_cons_succ, List.setIfInBounds_toArray, List.set_cons_zero, List.set_cons_succ]
                refine wpAnyH_take (i := 27) (v := undef) rfl (by kernel_rfl) (by kernel_rfl) (by kernel_rfl) (fun _ _ _ h => h) (Or.inr ⟨by rfl, rfl⟩) hHeld ?_
                simp only [Act.put, List.getElem_toArray, List.getElem_cons_zero, List.getElem_cons_succ, List.setIfInBounds_toArray, List.set_cons_zero, List.set_cons_succ]
                refine wpAnyH_take (i := 28) (v := undef) rfl (by kernel_rfl) (by kernel_rfl) (by kernel_rfl) (fun _ _ _ h => h) (Or.inr ⟨by rfl, rfl⟩) hHeld ?_
                simp only [Act.put, List.getElem_toArray, List.getElem_cons_zero, List.getElem_cons_succ, List.setIfInBounds_toArray, List.set_cons_zero, List.set_cons_succ]
                refine wpAnyH_take (i := 29) (v := undef) rfl (by kernel_rfl) (by kernel_rfl) (by kernel_rfl) (fun _ _ _ h => h) (Or.inr ⟨by rfl, rfl⟩) hHeld ?_
                simp only [Act.put, List.getElem_toArray, List.getElem_cons_zero, List.getElem_cons_succ, List.setIfInBounds_toArray, List.set_cons_zero, List.set_cons_succ]
                refine wpAnyH_take (i := 30) (v := undef) rfl (by kernel_rfl) (by kernel_rfl) (by kernel_rfl) (fun _ _ _ h => h) (Or.inr ⟨by rfl, rfl⟩) hHeld ?_
                simp only [Act.put, List.getElem_toArray, List.getElem_cons_zero, List.getElem_cons_succ, List.setIfInBounds_toArray, List.set_cons_zero, List.set_cons_succ]
                refine wpAnyH_take (i := 31) (v := undef) rfl (by kernel_rfl) (by kernel_rfl) (by kernel_rfl) (fun _ _ _ h => h) (Or.inr ⟨by rfl, rfl⟩) hHeld ?_
                simp only [Act.put, List.getElem_toArray, List.getElem_cons_zero, List.getElem_cons_succ, List.setIfInBounds_toArray, List.set_cons_zero, List.set_cons_succ]
                refine wpAnyH_take (i := 32) (v := undef) rfl (by kernel_rfl) (by kernel_rfl) (by kernel_rfl) (fun _ _ _ h => h) (Or.inr ⟨by rfl, rfl⟩) hHeld ?_
                simp only [Act.put, List.getElem_toArray, List.getElem_cons_zero, List.getElem_cons_succ, List.setIfInBounds_toArray, List.set_cons_zero, List.set_cons_succ]
                refine wpAnyH_take (i := 33) (v := undef) rfl (by kernel_rfl) (by kernel_rfl) (by kernel_rfl) (fun _ _ _ h => h) (Or.inr ⟨by rfl, rfl⟩) hHeld ?_
                simp only [Act.put, List.getElem_toArray, List.getElem_cons_zero, List.getElem_cons_succ, List.setIfInBounds_toArray, List.set_cons_zero, List.set_cons_succ]
                refine wpAnyH_take (i := 34) (v := undef) rfl (by kernel_rfl) (by kernel_rfl) (by kernel_rfl) (fun _ _ _ h => h) (Or.inr ⟨by rfl, rfl⟩) hHeld ?_
                simp only [Act.put, List.getElem_toArray, List.getElem_cons_zero, List.getElem_cons_succ, List.setIfInBounds_toArray, List.set_cons_zero, List.set_cons_succ]
                refine wpAnyH_take (i := 35) (v := undef) rfl (by kernel_rfl) (by kernel_rfl) (by kernel_rfl) (fun _ _ _ h => h) (Or.inr ⟨by rfl, rfl⟩) hHeld ?_
                simp only [Act.put, List.getElem_toArray, List.getElem_cons_zero, List.getElem_cons_succ, List.setIfInBounds_toArray, List.set_cons_zero, List.set_cons_succ]
                refine wpAnyH_take (i := 36) (v := undef) rfl (by kernel_rfl) (by kernel_rfl) (by kernel_rfl) (fun _ _ _ h => h) (Or.inr ⟨by rfl, rfl⟩) hHeld ?_
                simp only [Act.put, List.getElem_toArray, List.getElem_cons_zero, List.getElem_cons_succ, List.setIfInBounds_toArray, List.set_cons_zero, List.set_cons_succ]
                refine wpAnyH_take (i := 37) (v := undef) rfl (by kernel_rfl) (by kernel_rfl) (by kernel_rfl) (fun _ _ _ h => h) (Or.inr ⟨by rfl, rfl⟩) hHeld ?_
                simp only [Act.put, List.getElem_toArray, List.getElem_cons_zero, List.getElem_cons_succ, List.setIfInBounds_toArray, List.set_cons_zero, List.set_cons_succ]
                refine wpAnyH_take (i := 38) (v := .bool false) rfl (by kernel_rfl) (by kernel_rfl) (by kernel_rfl) (fun _ _ _ h => h) (Or.inl ⟨by rfl, fun w hS => by go_simp⟩) hHeld ?_
                simp only [Act.put, List.getElem_toArray, List.getElem_cons_zero, List.getElem_cons_succ, List.setIfInBounds_toArray, List.set_cons_zero, List.set_cons_succ]
                refine wpAnyH_take (i := 39) (v := .bool false) rfl (by kernel_rfl) (by kernel_rfl) (by kernel_rfl) (fun _ _ _ h => h) (Or.inl ⟨by rfl, fun w hS => by go_simp⟩) hHeld ?_
                simp only [Act.put, List.getElem_toArray, List.getElem_cons_zero, List.getElem_cons_succ, List.setIfInBounds_toArray, List.set_cons_zero, List.set_cons_succ]
                refine wpAnyH_done (by kernel_rfl) ?_ _
                go_wp2
                exact ⟨⟨i + 1, true, by omega, rfl, by go_num, HAM.out, grow_trans hb.out hHeld⟩, by simp [intOf]; omega⟩
              · have HCl1 := hidden (hCl1 hsm hvv)
                rw [decide_eq_false hsm] at HSm1
                clear hCl1 hsm hvv
                refine wp_region_held_drew (S := fun w' => Below wr.heap.size wr w') (by kernel_rfl) (below_drewN hHeld 1) (fun hHeld => ?_)
                refine wpAnyH_take (i := 0) (v := .agg (B R)) rfl (by kernel_rfl) (by kernel_rfl) (by kernel_rfl) (fun _ _ _ h => h) (yieldsIf_load_mid rfl 25 (.tmp 9) rfl g9 (0) rfl (B R).toList _ (fun w hS => (K9.out _ hS).range) Tryz.underlying25 rfl HLR.out) hHeld ?_
                simp only [Act.put, List.getElem_toArray, List.getElem_cons_zero, List.setIfInBounds_toArray, List.set_cons_zero, List.set_cons_succ]
                refine wpAnyH_take (i := 1) (v := .agg (B key)) rfl (by kernel_rfl) (by kernel_rfl) (by kernel_rfl) (fun _ _ _ h => h) (yieldsIf_load_mid rfl 24 (.tmp 5) rfl g5 (0) rfl (B key).toList _ (fun w hS => (K5.out _ hS).range) Tryz.underlying24 rfl HLk.out) hHeld ?_
                simp only [Act.put, List.getElem_toArray, List.getElem_cons_zero, List.getElem_cons_succ, List.setIfInBounds_toArray, List.set_cons_zero, List.set_cons_succ]
                refine wpAnyH_take (i := 2) (v := .slice (some ⟨lb, off, none⟩) 40 cap) rfl (by kernel_rfl) (by kernel_rfl) (by kernel_rfl) (fun _ _ _ h => h) (Or.inl ⟨by rfl, fun w hS => by go_simp⟩) hHeld ?_
                simp only [Act.put, List.getElem_toArray, List.getElem_cons_zero, List.getElem_cons_succ, List.setIfInBounds_toArray, List.set_cons_zero, List.set_cons_succ]
                refine wpAnyH_take (i := 3) (v := .int .i64 (i : Int)) rfl (by kernel_rfl) (by kernel_rfl) (by kernel_rfl) (fun _ _ _ h => h) (Or.inl ⟨by rfl, fun w hS => by go_simp⟩) hHeld ?_
                simp only [Act.put, List.getElem_toArray, List.getElem_cons_zero, List.getElem_cons_succ, List.setIfInBounds_toArray, List.set_cons_zero, List.set_cons_succ]
                refine wpAnyH_take (i := 4) (v := .pointer (some ⟨lb, off + i * 33, none⟩)) rfl (by kernel_rfl) (by kernel_rfl) (by kernel_rfl) (fun _ _ _ h => h) (Or.inl ⟨by rfl, fun w hS => by go_simp⟩) hHeld ?_
                simp only [Act.put, List.getElem_toArray, List.getElem_cons_zero, List.getElem_cons_succ, List.setIfInBounds_toArray, List.set_cons_zero, List.set_cons_succ]
                refine wpAnyH_take (i := 5) (v := .pointer (some ⟨lb, off + i * 33 + 32, none⟩)) rfl (by kernel_rfl) (by kernel_rfl) (by kernel_rfl) (fun _ _ _ h => h) (Or.inl ⟨by rfl, fun w hS => by go_simp⟩) hHeld ?_
                simp only [Act.put, List.getElem_toArray, List.getElem_cons_zero, List.getElem_cons_succ, List.setIfInBounds_toArray, List.set_cons_zero, List.set_cons_succ]
                refine wpAnyH_take (i := 6) (v := .slice pa pl pc) rfl (by kernel_rfl) (by kernel_rfl) (by kernel_rfl) (fun _ _ _ h => h) (Or.inl ⟨by rfl, fun w hS => by (have q1 := rng_val (HRG.out _ hS) HK32.out; go_simp)⟩) hHeld ?_
                simp only [Act.put, List.getElem_toArray, List.getElem_cons_zero, List.getElem_cons_succ, List.setIfInBounds_toArray, List.set_cons_zero, List.set_cons_succ]
                refine wpAnyH_take (i := 7) (v := .slice xa L xc) rfl (by kernel_rfl) (by kernel_rfl) (by kernel_rfl) (fun _ _ _ h => h) (Or.inl ⟨by rfl, fun w hS => by go_simp⟩) hHeld ?_
                simp only [Act.put, List.getElem_toArray, List.getElem_cons_zero, List.getElem_cons_succ, List.setIfInBounds_toArray, List.set_cons_zero, List.set_cons_succ]
                refine wpAnyH_ready (rs := [8]) (by kernel_rfl) (by simp) ?_
                refine AllReadyH.cons rfl (fun KQ hK => ?_) AllReadyH.nil
                go_simp
                refine (HPs1.out _ _ _ (HRD.out _ hHeld) (KX.out _ hHeld) (KL.out _ hHeld)).mono ?_
                rintro e y1 ⟨rfl, a1⟩
                refine hK.out _ _ (grow_trans hHeld a1) (fun hHeld => ?_)
                clear hK KQ
                refine wpAnyH_take (i := 9) (v := .bool false) rfl (by kernel_rfl) (by kernel_rfl) (by kernel_rfl) (fun _ _ _ h => h) (Or.inl ⟨by rfl, fun w hS => by go_simp⟩) hHeld ?_
                simp only [Act.put, List.getElem_toArray, List.getElem_cons_zero, List.getElem_cons_succ, List.setIfInBounds_toArray, List.set_cons_zero, List.set_cons_succ]
                refine wpAnyH_take (i := 10) (v := .bool false) rfl (by kernel_rfl) (by kernel_rfl) (by kernel_rfl) (fun _ _ _ h => h) (Or.inl ⟨by rfl, fun w hS => by go_simp⟩) hHeld ?_
                simp only [Act.put, List.getElem_toArray, List.getElem_cons_zero, List.getElem_cons_succ, List.setIfInBounds_toArray, List.set_cons_zero, List.set_cons_succ]
                refine wpAnyH_take (i := 11) (v := .agg (B R)) rfl (by kernel_rfl) (by kernel_rfl) (by kernel_rfl) (fun _ _ _ h => h) (yieldsIf_load_mid rfl 25 (.tmp 9) rfl g9 (0) rfl (B R).toList _ (fun w hS => (K9.out _ hS).range) Tryz.underlying25 rfl HLR.out) hHeld ?_
                simp only [Act.put, List.getElem_toArray, List.getElem_cons_zero, List.getElem_cons_succ, List.setIfInBounds_toArray, List.set_cons_zero, List.set_cons_succ]
                refine wpAnyH_take (i := 12) (v := .agg (B key)) rfl (by kernel_rfl) (by kernel_rfl) (by kernel_rfl) (fun _ _ _ h => h) (yieldsIf_load_mid rfl 24 (.tmp 5) rfl g5 (0) rfl (B key).toList _ (fun w hS => (K5.out _ hS).range) Tryz.underlying24 rfl HLk.out) hHeld ?_
                simp only [Act.put, List.getElem_toArray, List.getElem_cons_zero, List.getElem_cons_succ, List.setIfInBounds_toArray, List.set_cons_zero, List.set_cons_succ]
                refine wpAnyH_take (i := 13) (v := .slice ua ul uc) rfl (by kernel_rfl) (by kernel_rfl) (by kernel_rfl) (fun _ _ _ h => h) (Or.inl ⟨by rfl, fun w hS => by go_simp⟩) hHeld ?_
                simp only [Act.put, List.getElem_toArray, List.getElem_cons_zero, List.getElem_cons_succ, List.setIfInBounds_toArray, List.set_cons_zero, List.set_cons_succ]
                refine wpAnyH_take (i := 14) (v := .slice xa L xc) rfl (by kernel_rfl) (by kernel_rfl) (by kernel_rfl) (fun _ _ _ h => h) (Or.inl ⟨by rfl, fun w hS => by go_simp⟩) hHeld ?_
                simp only [Act.put, List.getElem_toArray, List.getElem_cons_zero, List.getElem_cons_succ, List.setIfInBounds_toArray, List.set_cons_zero, List.set_cons_succ]
                refine wpAnyH_ready (rs := [15]) (by kernel_rfl) (by simp) ?_
                refine AllReadyH.cons rfl (fun KQ hK => ?_) AllReadyH.nil
                go_simp
                refine (HPs2.out _ _ _ (KU.out _ hHeld) (KX.out _ hHeld) (KL.out _ hHeld)).mono ?_
                rintro e y2 ⟨rfl, a2⟩
                refine hK.out _ _ (grow_trans hHeld a2) (fun hHeld => ?_)
                clear hK KQ
                refine wpAnyH_take (i := 16) (v := .bool true) rfl (by kernel_rfl) (by kernel_rfl) (by kernel_rfl) (fun _ _ _ h => h) (Or.inl ⟨by rfl, fun w hS => by go_simp⟩) hHeld ?_
                simp only [Act.put, List.getElem_toArray, List.getElem_cons_zero, List.getElem_cons_succ, List.setIfInBounds_toArray, List.set_cons_zero, List.set_cons_succ]
                refine wpAnyH_take (i := 17) (v := .slice ua ul uc) rfl (by kernel_rfl) (by kernel_rfl) (by kernel_rfl) (fun _ _ _ h => h) (Or.inl ⟨by rfl, fun w hS => by go_simp⟩) hHeld ?_
                simp only [Act.put, List.getElem_toArray, List.getElem_cons_zero, List.getElem_cons_succ, List.setIfInBounds_toArray, List.set_cons_zero, List.set_cons_succ]
                refine wpAnyH_take (i := 18) (v := .slice (some ⟨lb, off, none⟩) 40 cap) rfl (by kernel_rfl) (by kernel_rfl) (by kernel_rfl) (fun _ _ _ h => h) (Or.inl ⟨by rfl, fun w hS => by go_simp⟩) hHeld ?_
                simp only [Act.put, List.getElem_toArray, List.getElem_cons_zero, List.getElem_cons_succ, List.setIfInBounds_toArray, List.set_cons_zero, List.set_cons_succ]
                refine wpAnyH_take (i := 19) (v := .int .i64 (i : Int)) rfl (by kernel_rfl) (by kernel_rfl) (by kernel_rfl) (fun _ _ _ h => h) (Or.inl ⟨by rfl, fun w hS => by go_simp⟩) hHeld ?_
                simp only [Act.put, List.getElem_toArray, List.getElem_cons_zero, List.getElem_cons_succ, List.setIfInBounds_toArray, List.set_cons_zero, List.set_cons_succ]
                refine wpAnyH_take (i := 20) (v := .pointer (some ⟨lb, off + i * 33, none⟩)) rfl (by kernel_rfl) (by kernel_rfl) (by kernel_rfl) (fun _ _ _ h => h) (Or.inl ⟨by rfl, fun w hS => by go_simp⟩) hHeld ?_
                simp only [Act.put, List.getElem_toArray, List.getElem_cons_zero, List.getElem_cons_succ, List.setIfInBounds_toArray, List.set_cons_zero, List.set_cons_succ]
                refine wpAnyH_take (i := 21) (v := .pointer (some ⟨lb, off + i * 33 + 32, none⟩)) rfl (by kernel_rfl) (by kernel_rfl) (by kernel_rfl) (fun _ _ _ h => h) (Or.inl ⟨by rfl, fun w hS => by go_simp⟩) hHeld ?_
                simp only [Act.put, List.getElem_toArray, List.getElem_cons_zero, List.getElem_cons_succ, List.setIfInBounds_toArray, List.set_cons_zero, List.set_cons_succ]
                refine wpAnyH_take (i := 22) (v := .slice pa pl pc) rfl (by kernel_rfl) (by kernel_rfl) (by kernel_rfl) (fun _ _ _ h => h) (Or.inl ⟨by rfl, fun w hS => by (have q1 := rng_val (HRG.out _ hS) HK32.out; go_simp)⟩) hHeld ?_
                simp only [Act.put, List.getElem_toArray, List.getElem_cons_zero, List.getElem_cons_succ, List.setIfInBounds_toArray, List.set_cons_zero, List.set_cons_succ]
                refine wpAnyH_ready (rs := [23]) (by kernel_rfl) (by simp) ?_
                refine AllReadyH.cons rfl (fun KQ hK => ?_) AllReadyH.nil
                go_simp
                refine (HSm1.out _ _ _ (KU.out _ hHeld) (HRD.out _ hHeld)).mono ?_
                rintro e y3 ⟨rfl, rfl⟩
                refine hK.out _ _ (hHeld) (fun hHeld => ?_)
                clear hK KQ
                refine wpAnyH_take (i := 24) (v := .bool true) rfl (by kernel_rfl) (by kernel_rfl) (by kernel_rfl) (fun _ _ _ h => h) (Or.inl ⟨by rfl, fun w hS => by go_simp⟩) hHeld ?_
                simp only [Act.put, List.getElem_toArray, List.getElem_cons_zero, List.getElem_cons_succ, List.setIfInBounds_toArray, List.set_cons_zero, List.set_cons_succ]
                refine wpAnyH_take (i := 25) (v := .bool true) rfl (by kernel_rfl) (by kernel_rfl) (by kernel_rfl) (fun _ _ _ h => h) (Or.inl ⟨by rfl, fun w hS => by go_simp⟩) hHeld ?_
                simp only [Act.put, List.getElem_toArray, List.getElem_cons_zero, List.getElem_cons_succ, List.setIfInBounds_toArray, List.set_cons_zero, List.set_cons_succ]
                refine wpAnyH_take (i := 26) (v := .bool true) rfl (by kernel_rfl) (by kernel_rfl) (by kernel_rfl) (fun _ _ _ h => h) (Or.inl ⟨by rfl, fun w hS => by go_simp⟩) hHeld ?_
                simp only [Act.put, List.getElem_toArray, List.getElem_cons_zero, List.getElem_cons_succ, List.setIfInBounds_toArray, List.set_cons_zero, List.set_cons_succ]
                refine wpAnyH_take (i := 27) (v := .slice ua ul uc) rfl (by kernel_rfl) (by kernel_rfl) (by kernel_rfl) (fun _ _ _ h => h) (Or.inl ⟨by rfl, fun w hS => by go_simp⟩) hHeld ?_
                simp only [Act.put, List.getElem_toArray, List.getElem_cons_zero, List.getElem_cons_succ, List.setIfInBounds_toArray, List.set_cons_zero, List.set_cons_succ]
                refine wpAnyH_take (i := 29) (v := .slice (some ⟨lb, off, none⟩) 40 cap) rfl (by kernel_rfl) (by kernel_rfl) (by kernel_rfl) (fun _ _ _ h => h) (Or.inl ⟨by rfl, fun w hS => by go_simp⟩) hHeld ?_
                simp only [Act.put, List.getElem_toArray, List.getElem_cons_zero, List.getElem_cons_succ, List.setIfInBounds_toArray, List.set_cons_zero, List.set_cons_succ]
                refine wpAnyH_take (i := 30) (v := .int .i64 (i : Int)) rfl (by kernel_rfl) (by kernel_rfl) (by kernel_rfl) (fun _ _ _ h => h) (Or.inl ⟨by rfl, fun w hS => by go_simp⟩) hHeld ?_
                simp only [Act.put, List.getElem_toArray, List.getElem_cons_zero, List.getElem_cons_succ, List.setIfInBounds_toArray, List.set_cons_zero, List.set_cons_succ]
                refine wpAnyH_take (i := 31) (v := .pointer (some ⟨lb, off + i * 33, none⟩)) rfl (by kernel_rfl) (by kernel_rfl) (by kernel_rfl) (fun _ _ _ h => h) (Or.inl ⟨by rfl, fun w hS => by go_simp⟩) hHeld ?_
                simp only [Act.put, List.getElem_toArray, List.getElem_cons_zero, List.getElem_cons_succ, List.setIfInBounds_toArray, List.set_cons_zero, List.set_cons_succ]
                refine wpAnyH_take (i := 32) (v := .pointer (some ⟨lb, off + i * 33 + 32, none⟩)) rfl (by kernel_rfl) (by kernel_rfl) (by kernel_rfl) (fun _ _ _ h => h) (Or.inl ⟨by rfl, fun w hS => by go_simp⟩) hHeld ?_
                simp only [Act.put, List.getElem_toArray, List.getElem_cons_zero, List.getElem_cons_succ, List.setIfInBounds_toArray, List.set_cons_zero, List.set_cons_succ]
                refine wpAnyH_take (i := 33) (v := .slice pa pl pc) rfl (by kernel_rfl) (by kernel_rfl) (by kernel_rfl) (fun _ _ _ h => h) (Or.inl ⟨by rfl, fun w hS => by (have q1 := rng_val (HRG.out _ hS) HK32.out; go_simp)⟩) hHeld ?_
                simp only [Act.put, List.getElem_toArray, List.getElem_cons_zero, List.getElem_cons_succ, List.setIfInBounds_toArray, List.set_cons_zero, List.set_cons_succ]
                refine wpAnyH_ready (rs := [28]) (by kernel_rfl) (by simp) ?_
                refine AllReadyH.cons rfl (fun KQ hK => ?_) AllReadyH.nil
                go_simp
                refine (HVT.out _ _ _ (KU.out _ hHeld) HLy.out).mono ?_
                rintro e y4 ⟨ta, tl, tc, rfl, ht, a4⟩
                have KT := hidden ht.kp
                clear ht
                refine hK.out _ _ (grow_trans hHeld a4) (fun hHeld => ?_)
                clear hK KQ
                refine wpAnyH_ready (rs := [34]) (by kernel_rfl) (by simp) ?_
                refine AllReadyH.cons rfl (fun KQ hK => ?_) AllReadyH.nil
                go_simp
                refine (HVT.out _ _ _ (HRD.out _ hHeld) HVL.out).mono ?_
                rintro e y5 ⟨ta2, tl2, tc2, rfl, ht2, a5⟩
                replace KT := hidden (KT.out.step a5)
                refine hK.out _ _ (grow_trans hHeld a5) (fun hHeld => ?_)
                clear hK KQ
                refine wpAnyH_take (i := 35) (v := .agg #[.slice ta tl tc, .slice ta2 tl2 tc2]) rfl (by kernel_rfl) (by kernel_rfl) (by kernel_rfl) (fun _ _ _ h => h) (Or.inl ⟨by rfl, fun w hS => exec_bd _ _ 51 _ (by rfl) _ (by rw [List.map_toArray]; exact built_two _ _ _ _ _ _) w⟩) hHeld ?_
                simp only [Act.put, List.getElem_toArray, List.getElem_cons_zero, List.getElem_cons_succ, List.setIfInBounds_toArray, List.set_cons_zero, List.set_cons_succ]
                refine wpAnyH_ready (rs := [36]) (by kernel_rfl) (by simp) ?_
                refine AllReadyH.cons rfl (fun KQ hK => ?_) AllReadyH.nil
                go_simp
                refine (HCl1.out _ _ _ KT.out.now ht2 (KL.out _ hHeld)).mono ?_
                rintro e y6 ⟨rfl, a6⟩
                refine hK.out _ _ (grow_trans hHeld a6) (fun hHeld => ?_)
                clear hK KQ
                refine wpAnyH_take (i := 37) (v := .bool false) rfl (by kernel_rfl) (by kernel_rfl) (by kernel_rfl) (fun _ _ _ h => h) (Or.inl ⟨by rfl, fun w hS => by go_simp⟩) hHeld ?_
                simp only [Act.put, List.getElem_toArray, List.getElem_cons_zero, List.getElem_cons_succ, List.setIfInBounds_toArray, List.set_cons_zero, List.set_cons_succ]
                refine wpAnyH_take (i := 38) (v := .bool false) rfl (by kernel_rfl) (by kernel_rfl) (by kernel_rfl) (fun _ _ _ h => h) (Or.inl ⟨by rfl, fun w hS => by go_simp⟩) hHeld ?_
                simp only [Act.put, List.getElem_toArray, List.getElem_cons_zero, List.getElem_cons_succ, List.setIfInBounds_toArray, List.set_cons_zero, List.set_cons_succ]
                refine wpAnyH_take (i := 39) (v := .bool false) rfl (by kernel_rfl) (by kernel_rfl) (by kernel_rfl) (fun _ _ _ h => h) (Or.inl ⟨by rfl, fun w hS => by go_simp⟩) hHeld ?_
                simp only [Act.put, List.getElem_toArray, List.getElem_cons_zero, List.getElem_cons_succ, List.setIfInBounds_toArray, List.set_cons_zero, List.set_cons_succ]
                refine wpAnyH_done (by kernel_rfl) ?_ _
                go_wp2
                exact ⟨⟨i + 1, true, by omega, rfl, by go_num, HAM.out, grow_trans hb.out hHeld⟩, by simp [intOf]; omega⟩
            · have hps' : psB R key ys X k a b c d = false := by simpa using hps
              rw [hps'] at HPs2
              clear hp2 hps hps' hCl1
              refine wp_region_held_drew (S := fun w' => Below wr.heap.size wr w') (by kernel_rfl) (below_drewN hHeld 1) (fun hHeld => ?_)
              refine wpAnyH_take (i := 0) (v := .agg (B R)) rfl (by kernel_rfl) (by kernel_rfl) (by kernel_rfl) (fun _ _ _ h => h) (yieldsIf_load_mid rfl 25 (.tmp 9) rfl g9 (0) rfl (B R).toList _ (fun w hS => (K9.out _ hS).range) Tryz.underlying25 rfl HLR.out) hHeld ?_
              simp only [Act.put, List.getElem_toArray, List.getElem_cons_zero, List.setIfInBounds_toArray, List.set_cons_zero, List.set_cons_succ]
              refine wpAnyH_take (i := 1) (v := .agg (B key)) rfl (by kernel_rfl) (by kernel_rfl) (by kernel_rfl) (fun _ _ _ h => h) (yieldsIf_load_mid rfl 24 (.tmp 5) rfl g5 (0) rfl (B key).toList _ (fun w hS => (K5.out _ hS).range) Tryz.underlying24 rfl HLk.out) hHeld ?_
              simp only [Act.put, List.getElem_toArray, List.getElem_cons_zero, List.getElem_cons_succ, List.setIfInBounds_toArray, List.set_cons_zero, List.set_cons_succ]
              refine wpAnyH_take (i := 2) (v := .slice (some ⟨lb, off, none⟩) 40 cap) rfl (by kernel_rfl) (by kernel_rfl) (by kernel_rfl) (fun _ _ _ h => h) (Or.inl ⟨by rfl, fun w hS => by go_simp⟩) hHeld ?_
              simp only [Act.put, List.getElem_toArray, List.getElem_cons_zero, List.getElem_cons_succ, List.setIfInBounds_toArray, List.set_cons_zero, List.set_cons_succ]
              refine wpAnyH_take (i := 3) (v := .int .i64 (i : Int)) rfl (by kernel_rfl) (by kernel_rfl) (by kernel_rfl) (fun _ _ _ h => h) (Or.inl ⟨by rfl, fun w hS => by go_simp⟩) hHeld ?_
              simp only [Act.put, List.getElem_toArray, List.getElem_cons_zero, List.getElem_cons_succ, List.setIfInBounds_toArray, List.set_cons_zero, List.set_cons_succ]
              refine wpAnyH_take (i := 4) (v := .pointer (some ⟨lb, off + i * 33, none⟩)) rfl (by kernel_rfl) (by kernel_rfl) (by kernel_rfl) (fun _ _ _ h => h) (Or.inl ⟨by rfl, fun w hS => by go_simp⟩) hHeld ?_
              simp only [Act.put, List.getElem_toArray, List.getElem_cons_zero, List.getElem_cons_succ, List.setIfInBounds_toArray, List.set_cons_zero, List.set_cons_succ]
              refine wpAnyH_take (i := 5) (v := .pointer (some ⟨lb, off + i * 33 + 32, none⟩)) rfl (by kernel_rfl) (by kernel_rfl) (by kernel_rfl) (fun _ _ _ h => h) (Or.inl ⟨by rfl, fun w hS => by go_simp⟩) hHeld ?_
              simp only [Act.put, List.getElem_toArray, List.getElem_cons_zero, List.getElem_cons_succ, List.setIfInBounds_toArray, List.set_cons_zero, List.set_cons_succ]
              refine wpAnyH_take (i := 6) (v := .slice pa pl pc) rfl (by kernel_rfl) (by kernel_rfl) (by kernel_rfl) (fun _ _ _ h => h) (Or.inl ⟨by rfl, fun w hS => by (have q1 := rng_val (HRG.out _ hS) HK32.out; go_simp)⟩) hHeld ?_
              simp only [Act.put, List.getElem_toArray, List.getElem_cons_zero, List.getElem_cons_succ, List.setIfInBounds_toArray, List.set_cons_zero, List.set_cons_succ]
              refine wpAnyH_take (i := 7) (v := .slice xa L xc) rfl (by kernel_rfl) (by kernel_rfl) (by kernel_rfl) (fun _ _ _ h => h) (Or.inl ⟨by rfl, fun w hS => by go_simp⟩) hHeld ?_
              simp only [Act.put, List.getElem_toArray, List.getElem_cons_zero, List.getElem_cons_succ, List.setIfInBounds_toArray, List.set_cons_zero, List.set_cons_succ]
              refine wpAnyH_ready (rs := [8]) (by kernel_rfl) (by simp) ?_
              refine AllReadyH.cons rfl (fun KQ hK => ?_) AllReadyH.nil
              go_simp
              refine (HPs1.out _ _ _ (HRD.out _ hHeld) (KX.out _ hHeld) (KL.out _ hHeld)).mono ?_
              rintro e y1 ⟨rfl, a1⟩
              refine hK.out _ _ (grow_trans hHeld a1) (fun hHeld => ?_)
              clear hK KQ
              refine wpAnyH_take (i := 9) (v := .bool false) rfl (by kernel_rfl) (by kernel_rfl) (by kernel_rfl) (fun _ _ _ h => h) (Or.inl ⟨by rfl, fun w hS => by go_simp⟩) hHeld ?_
              simp only [Act.put, List.getElem_toArray, List.getElem_cons_zero, List.getElem_cons_succ, List.setIfInBounds_toArray, List.set_cons_zero, List.set_cons_succ]
              refine wpAnyH_take (i := 10) (v := .bool false) rfl (by kernel_rfl) (by kernel_rfl) (by kernel_rfl) (fun _ _ _ h => h) (Or.inl ⟨by rfl, fun w hS => by go_simp⟩) hHeld ?_
              simp only [Act.put, List.getElem_toArray, List.getElem_cons_zero, List.getElem_cons_succ, List.setIfInBounds_toArray, List.set_cons_zero, List.set_cons_succ]
              refine wpAnyH_take (i := 11) (v := .agg (B R)) rfl (by kernel_rfl) (by kernel_rfl) (by kernel_rfl) (fun _ _ _ h => h) (yieldsIf_load_mid rfl 25 (.tmp 9) rfl g9 (0) rfl (B R).toList _ (fun w hS => (K9.out _ hS).range) Tryz.underlying25 rfl HLR.out) hHeld ?_
              simp only [Act.put, List.getElem_toArray, List.getElem_cons_zero, List.getElem_cons_succ, List.setIfInBounds_toArray, List.set_cons_zero, List.set_cons_succ]
              refine wpAnyH_take (i := 12) (v := .agg (B key)) rfl (by kernel_rfl) (by kernel_rfl) (by kernel_rfl) (fun _ _ _ h => h) (yieldsIf_load_mid rfl 24 (.tmp 5) rfl g5 (0) rfl (B key).toList _ (fun w hS => (K5.out _ hS).range) Tryz.underlying24 rfl HLk.out) hHeld ?_
              simp only [Act.put, List.getElem_toArray, List.getElem_cons_zero, List.getElem_cons_succ, List.setIfInBounds_toArray, List.set_cons_zero, List.set_cons_succ]
              refine wpAnyH_take (i := 13) (v := .slice ua ul uc) rfl (by kernel_rfl) (by kernel_rfl) (by kernel_rfl) (fun _ _ _ h => h) (Or.inl ⟨by rfl, fun w hS => by go_simp⟩) hHeld ?_
              simp only [Act.put, List.getElem_toArray, List.getElem_cons_zero, List.getElem_cons_succ, List.setIfInBounds_toArray, List.set_cons_zero, List.set_cons_succ]
              refine wpAnyH_take (i := 14) (v := .slice xa L xc) rfl (by kernel_rfl) (by kernel_rfl) (by kernel_rfl) (fun _ _ _ h => h) (Or.inl ⟨by rfl, fun w hS => by go_simp⟩) hHeld ?_
              simp only [Act.put, List.getElem_toArray, List.getElem_cons_zero, List.getElem_cons_succ, List.setIfInBounds_toArray, List.set_cons_zero, List.set_cons_succ]
              refine wpAnyH_ready (rs := [15]) (by kernel_rfl) (by simp) ?_
              refine AllReadyH.cons rfl (fun KQ hK => ?_) AllReadyH.nil
              go_simp
              refine (HPs2.out _ _ _ (KU.out _ hHeld) (KX.out _ hHeld) (KL.out _ hHeld)).mono ?_
              rintro e y2 ⟨rfl, a2⟩
              refine hK.out _ _ (grow_trans hHeld a2) (fun hHeld => ?_)
              clear hK KQ
              refine wpAnyH_take (i := 16) (v := .bool false) rfl (by kernel_rfl) (by kernel_rfl) (by kernel_rfl) (fun _ _ _ h => h) (Or.inl ⟨by rfl, fun w hS => by go_simp⟩) hHeld ?_
              simp only [Act.put, List.getElem_toArray, List.getElem_cons_zero, List.getElem_cons_succ, List.setIfInBounds_toArray, List.set_cons_zero, List.set_cons_succ]
              refine wpAnyH_take (i := 17) (v := undef) rfl (by kernel_rfl) (by kernel_rfl) (by kernel_rfl) (fun _ _ _ h => h) (Or.inr ⟨by rfl, rfl⟩) hHeld ?_
              simp only [Act.put, List.getElem_toArray, List.getElem_cons_zero, List.getElem_cons_succ, List.setIfInBounds_toArray, List.set_cons_zero, List.set_cons_succ]
              refine wpAnyH_take (i := 18) (v := undef) rfl (by kernel_rfl) (by kernel_rfl) (by kernel_rfl) (fun _ _ _ h => h) (Or.inr ⟨by rfl, rfl⟩) hHeld ?_
              simp only [Act.put, List.getElem_toArray, List.getElem_cons_zero, List.getElem_cons_succ, List.setIfInBounds_toArray, List.set_cons_zero, List.set_cons_succ]
              refine wpAnyH_take (i := 19) (v := undef) rfl (by kernel_rfl) (by kernel_rfl) (by kernel_rfl) (fun _ _ _ h => h) (Or.inr ⟨by rfl, rfl⟩) hHeld ?_
              simp only [Act.put, List.getElem_toArray, List.getElem_cons_zero, List.getElem_cons_succ, List.setIfInBounds_toArray, List.set_cons_zero, List.set_cons_succ]
              refine wpAnyH_take (i := 20) (v := undef) rfl (by kernel_rfl) (by kernel_rfl) (by kernel_rfl) (fun _ _ _ h => h) (Or.inr ⟨by rfl, rfl⟩) hHeld ?_
              simp only [Act.put, List.getElem_toArray, List.getElem_cons_zero, List.getElem_cons_succ, List.setIfInBounds_toArray, List.set_cons_zero, List.set_cons_succ]
              refine wpAnyH_take (i := 21) (v := undef) rfl (by kernel_rfl) (by kernel_rfl) (by kernel_rfl) (fun _ _ _ h => h) (Or.inr ⟨by rfl, rfl⟩) hHeld ?_
              simp only [Act.put, List.getElem_toArray, List.getElem_cons_zero, List.getElem_cons_succ, List.setIfInBounds_toArray, List.set_cons_zero, List.set_cons_succ]
              refine wpAnyH_take (i := 22) (v := undef) rfl (by kernel_rfl) (by kernel_rfl) (by kernel_rfl) (fun _ _ _ h => h) (Or.inr ⟨by rfl, rfl⟩) hHeld ?_
              simp only [Act.put, List.getElem_toArray, List.getElem_cons_zero, List.getElem_cons_succ, List.setIfInBounds_toArray, List.set_cons_zero, List.set_cons_succ]
              refine wpAnyH_take (i := 23) (v := undef) rfl (by kernel_rfl) (by kernel_rfl) (by kernel_rfl) (fun _ _ _ h => h) (Or.inr ⟨by rfl, rfl⟩) hHeld ?_
              simp only [Act.put, List.getElem_toArray, List.getElem_cons_zero, List.getElem_cons_succ, List.setIfInBounds_toArray, List.set_cons_zero, List.set_cons_succ]
              refine wpAnyH_take (i := 24) (v := undef) rfl (by kernel_rfl) (by kernel_rfl) (by kernel_rfl) (fun _ _ _ h => h) (Or.inr ⟨by rfl, rfl⟩) hHeld ?_
              simp only [Act.put, List.getElem_toArray, List.getElem_cons_zero, List.getElem_cons_succ, List.setIfInBounds_toArray, List.set_cons_zero, List.set_cons_succ]
              refine wpAnyH_take (i := 25) (v := .bool false) rfl (by kernel_rfl) (by kernel_rfl) (by kernel_rfl) (fun _ _ _ h => h) (Or.inl ⟨by rfl, fun w hS => by go_simp⟩) hHeld ?_
              simp only [Act.put, List.getElem_toArray, List.getElem_cons_zero, List.getElem_cons_succ, List.setIfInBounds_toArray, List.set_cons_zero, List.set_cons_succ]
              refine wpAnyH_take (i := 26) (v := .bool false) rfl (by kernel_rfl) (by kernel_rfl) (by kernel_rfl) (fun _ _ _ h => h) (Or.inl ⟨by rfl, fun w hS => by go_simp⟩) hHeld ?_
              simp only [Act.put, List.getElem_toArray, List.getElem_cons_zero, List.getElem_cons_succ, List.setIfInBounds_toArray, List.set_cons_zero, List.set_cons_succ]
              refine wpAnyH_take (i := 27) (v := undef) rfl (by kernel_rfl) (by kernel_rfl) (by kernel_rfl) (fun _ _ _ h => h) (Or.inr ⟨by rfl, rfl⟩) hHeld ?_
              simp only [Act.put, List.getElem_toArray, List.getElem_cons_zero, List.getElem_cons_succ, List.setIfInBounds_toArray, List.set_cons_zero, List.set_cons_succ]
              refine wpAnyH_take (i := 28) (v := undef) rfl (by kernel_rfl) (by kernel_rfl) (by kernel_rfl) (fun _ _ _ h => h) (Or.inr ⟨by rfl, rfl⟩) hHeld ?_
              simp only [Act.put, List.getElem_toArray, List.getElem_cons_zero, List.getElem_cons_succ, List.setIfInBounds_toArray, List.set_cons_zero, List.set_cons_succ]
              refine wpAnyH_take (i := 29) (v := undef) rfl (by kernel_rfl) (by kernel_rfl) (by kernel_rfl) (fun _ _ _ h => h) (Or.inr ⟨by rfl, rfl⟩) hHeld ?_
              simp only [Act.put, List.getElem_toArray, List.getElem_cons_zero, List.getElem_cons_succ, List.setIfInBounds_toArray, List.set_cons_zero, List.set_cons_succ]
              refine wpAnyH_take (i := 30) (v := undef) rfl (by kernel_rfl) (by kernel_rfl) (by kernel_rfl) (fun _ _ _ h => h) (Or.inr ⟨by rfl, rfl⟩) hHeld ?_
              simp only [Act.put, List.getElem_toArray, List.getElem_cons_zero, List.getElem_cons_succ, List.setIfInBounds_toArray, List.set_cons_zero, List.set_cons_succ]
              refine wpAnyH_take (i := 31) (v := undef) rfl (by kernel_rfl) (by kernel_rfl) (by kernel_rfl) (fun _ _ _ h => h) (Or.inr ⟨by rfl, rfl⟩) hHeld ?_
              simp only [Act.put, List.getElem_toArray, List.getElem_cons_zero, List.getElem_cons_succ, List.setIfInBounds_toArray, List.set_cons_zero, List.set_cons_succ]
              refine wpAnyH_take (i := 32) (v := undef) rfl (by kernel_rfl) (by kernel_rfl) (by kernel_rfl) (fun _ _ _ h => h) (Or.inr ⟨by rfl, rfl⟩) hHeld ?_
              simp only [Act.put, List.getElem_toArray, List.getElem_cons_zero, List.getElem_cons_succ, List.setIfInBounds_toArray, List.set_cons_zero, List.set_cons_succ]
              refine wpAnyH_take (i := 33) (v := undef) rfl (by kernel_rfl) (by kernel_rfl) (by kernel_rfl) (fun _ _ _ h => h) (Or.inr ⟨by rfl, rfl⟩) hHeld ?_
              simp only [Act.put, List.getElem_toArray, List.getElem_cons_zero, List.getElem_cons_succ, List.setIfInBounds_toArray, List.set_cons_zero, List.set_cons_succ]
              refine wpAnyH_take (i := 34) (v := undef) rfl (by kernel_rfl) (by kernel_rfl) (by kernel_rfl) (fun _ _ _ h => h) (Or.inr ⟨by rfl, rfl⟩) hHeld ?_
              simp only [Act.put, List.getElem_toArray, List.getElem_cons_zero, List.getElem_cons_succ, List.setIfInBounds_toArray, List.set_cons_zero, List.set_cons_succ]
              refine wpAnyH_take (i := 35) (v := undef) rfl (by kernel_rfl) (by kernel_rfl) (by kernel_rfl) (fun _ _ _ h => h) (Or.inr ⟨by rfl, rfl⟩) hHeld ?_
              simp only [Act.put, List.getElem_toArray, List.getElem_cons_zero, List.getElem_cons_succ, List.setIfInBounds_toArray, List.set_cons_zero, List.set_cons_succ]
              refine wpAnyH_take (i := 36) (v := undef) rfl (by kernel_rfl) (by kernel_rfl) (by kernel_rfl) (fun _ _ _ h => h) (Or.inr ⟨by rfl, rfl⟩) hHeld ?_
              simp only [Act.put, List.getElem_toArray, List.getElem_cons_zero, List.getElem_cons_succ, List.setIfInBounds_toArray, List.set_cons_zero, List.set_cons_succ]
              refine wpAnyH_take (i := 37) (v := undef) rfl (by kernel_rfl) (by kernel_rfl) (by kernel_rfl) (fun _ _ _ h => h) (Or.inr ⟨by rfl, rfl⟩) hHeld ?_
              simp only [Act.put, List.getElem_toArray, List.getElem_cons_zero, List.getElem_cons_succ, List.setIfInBounds_toArray, List.set_cons_zero, List.set_cons_succ]
              refine wpAnyH_take (i := 38) (v := .bool false) rfl (by kernel_rfl) (by kernel_rfl) (by kernel_rfl) (fun _ _ _ h => h) (Or.inl ⟨by rfl, fun w hS => by go_simp⟩) hHeld ?_
              simp only [Act.put, List.getElem_toArray, List.getElem_cons_zero, List.getElem_cons_succ, List.setIfInBounds_toArray, List.set_cons_zero, List.set_cons_succ]
              refine wpAnyH_take (i := 39) (v := .bool false) rfl (by kernel_rfl) (by kernel_rfl) (by kernel_rfl) (fun _ _ _ h => h) (Or.inl ⟨by rfl, fun w hS => by go_simp⟩) hHeld ?_
              simp only [Act.put, List.getElem_toArray, List.getElem_cons_zero, List.getElem_cons_succ, List.setIfInBounds_toArray, List.set_cons_zero, List.set_cons_succ]
              refine wpAnyH_done (by kernel_rfl) ?_ _
              go_wp2
              exact ⟨⟨i + 1, true, by omega, rfl, by go_num, HAM.out, grow_trans hb.out hHeld⟩, by simp [intOf]; omega⟩
          · have hdk : decide (Ki = key) = false := decide_eq_false hkk
            replace HAM := hidden (HAM.out false hdk.symm)
            rw [hdk] at hqi
            rw [Bool.or_false] at HAM
            clear hPi hkk hdk hCl1
            go_wp2
            refine wp_region_held_drew (S := fun w' => Below wr.heap.size wr w') (by kernel_rfl) (below_drewN (Below.refl _ _) 1) (fun hHeld => ?_)
            refine wpAnyH_take (i := 0) (v := .slice (some ⟨lb, off, none⟩) 40 cap) rfl (by kernel_rfl) (by kernel_rfl) (by kernel_rfl) (fun _ _ _ h => h) (Or.inl ⟨by rfl, fun w hS => by go_simp⟩) hHeld ?_
            simp only [Act.put, List.getElem_toArray, List.getElem_cons_zero, List.setIfInBounds_toArray, List.set_cons_zero, List.set_cons_succ]
            refine wpAnyH_take (i := 1) (v := .int .i64 (i : Int)) rfl (by kernel_rfl) (by kernel_rfl) (by kernel_rfl) (fun _ _ _ h => h) (Or.inl ⟨by rfl, fun w hS => by go_simp⟩) hHeld ?_
            simp only [Act.put, List.getElem_toArray, List.getElem_cons_zero, List.getElem_cons_succ, List.setIfInBounds_toArray, List.set_cons_zero, List.set_cons_succ]
            refine wpAnyH_take (i := 2) (v := .pointer (some ⟨lb, off + i * 33, none⟩)) rfl (by kernel_rfl) (by kernel_rfl) (by kernel_rfl) (fun _ _ _ h => h) (Or.inl ⟨by rfl, fun w hS => by go_simp⟩) hHeld ?_
            simp only [Act.put, List.getElem_toArray, List.getElem_cons_zero, List.getElem_cons_succ, List.setIfInBounds_toArray, List.set_cons_zero, List.set_cons_succ]
            refine wpAnyH_take (i := 3) (v := .pointer (some ⟨lb, off + i * 33, none⟩)) rfl (by kernel_rfl) (by kernel_rfl) (by kernel_rfl) (fun _ _ _ h => h) (Or.inl ⟨by rfl, fun w hS => by go_simp⟩) hHeld ?_
            simp only [Act.put, List.getElem_toArray, List.getElem_cons_zero, List.getElem_cons_succ, List.setIfInBounds_toArray, List.set_cons_zero, List.set_cons_succ]
            refine wpAnyH_take (i := 4) (v := .agg (B Ki)) rfl (by kernel_rfl) (by kernel_rfl) (by kernel_rfl) (fun _ _ _ h => h) (yieldsIf_load_mid rfl 24 (.tmp 72) rfl lb (off + i * 33) rfl (B Ki).toList _ (fun w hS => rng_key (HRG.out _ hS)) Tryz.underlying24 rfl HKL.out) hHeld ?_
            simp only [Act.put, List.getElem_toArray, List.getElem_cons_zero, List.getElem_cons_succ, List.setIfInBounds_toArray, List.set_cons_zero, List.set_cons_succ]
            refine wpAnyH_take (i := 5) (v := .agg (B key)) rfl (by kernel_rfl) (by kernel_rfl) (by kernel_rfl) (fun _ _ _ h => h) (yieldsIf_load_mid rfl 24 (.tmp 5) rfl g5 (0) rfl (B key).toList _ (fun w hS => (K5.out _ hS).range) Tryz.underlying24 rfl HLk.out) hHeld ?_
            simp only [Act.put, List.getElem_toArray, List.getElem_cons_zero, List.getElem_cons_succ, List.setIfInBounds_toArray, List.set_cons_zero, List.set_cons_succ]
            refine wpAnyH_take (i := 6) (v := .bool false) rfl (by kernel_rfl) (by kernel_rfl) (by kernel_rfl) (fun _ _ _ h => h) (Or.inl ⟨by rfl, fun w hS => by go_simp⟩) hHeld ?_
            simp only [Act.put, List.getElem_toArray, List.getElem_cons_zero, List.getElem_cons_succ, List.setIfInBounds_toArray, List.set_cons_zero, List.set_cons_succ]
            refine wpAnyH_done (by kernel_rfl) ?_ _
            go_wp2
            exact ⟨⟨i + 1, th, by omega, rfl, by go_num, HAM.out, grow_trans hb.out hHeld⟩, by simp [intOf]; omega⟩
        · have z1 : ¬ (i : Int) < (40 : Int) := by omega
          obtain rfl : i = 40 := by omega
          have hthO : th = O := by rw [hth.out, HAl.out]
          subst hthO
          have hno : (th == !th) = false := by cases th <;> rfl
          by_cases hor : other = R
          · rw [decide_eq_true hor] at hqO
            clear HEO hor
            go_wp2_with (first
              | ((with_reducible refine at_ldd 117 9 ?_); refine wpList_ld _ rfl _ _ rfl g9 _ rfl K9.out.now _ _ Tryz.underlying25 HSR.out.1 ?_)
              | ((with_reducible refine at_ldd 118 5 ?_); refine wpList_ld _ rfl _ _ rfl g5 _ rfl K5.out.now _ _ Tryz.underlying24 HSk.out ?_)
              | ((with_reducible refine at_ldd 123 6 ?_); refine wpList_ld _ rfl _ _ rfl g6 _ rfl K6.out.now _ _ Tryz.underlying25 HSO.out.1 ?_)
              | ((with_reducible refine at_ldd 124 5 ?_); refine wpList_ld _ rfl _ _ rfl g5 _ rfl K5.out.now _ _ Tryz.underlying24 HSk.out ?_)
              | ((with_reducible refine at_ald 19 ?_); refine wpList_al _ rfl _ rfl _ zero_said ?_; intro x63 g19 hg19 hl63 bq63 q63; clear hl63)
              | ((with_reducible refine at_st 19 ?_); refine wpList_sto _ rfl _ _ _ rfl g19 _ (SD) rfl rfl bq63 HSD.out.1 HSD.out.2 HOn.out ?_; intro x64 by64 r64; have q64 := below_row q63 r64 hg19; replace KU := hidden (KU.out.step q64); replace KW := hidden (KW.out.step q64); replace KL := hidden (KL.out.step q64); replace KP := hidden (KP.out.step q64); replace K5 := hidden (K5.out.step q64); replace K6 := hidden (K6.out.step q64); replace K9 := hidden (K9.out.step q64); replace KQ := hidden (KQ.out.step q64); replace K11 := hidden (K11.out.step q64); replace KX := hidden (KX.out.step q64); have K19 := hidden by64.kp; clear q64 q63 r64 by64 bq63 hg19)
              | ((with_reducible refine at_ldd 129 6 ?_); refine wpList_ld _ rfl _ _ rfl g6 _ rfl K6.out.now _ _ Tryz.underlying25 HSO.out.1 ?_)
              | ((with_reducible refine at_ldd 130 9 ?_); refine wpList_ld _ rfl _ _ rfl g9 _ rfl K9.out.now _ _ Tryz.underlying25 HSR.out.1 ?_)
              | (go_at_call 6; refine (HRe.out _ _ KX.out.now KL.out.now).mono ?_; rintro e x62 ⟨rfl, q62⟩; replace KU := hidden (KU.out.step q62); replace KW := hidden (KW.out.step q62); replace KL := hidden (KL.out.step q62); replace KP := hidden (KP.out.step q62); replace K5 := hidden (K5.out.step q62); replace K6 := hidden (K6.out.step q62); replace K9 := hidden (K9.out.step q62); replace KQ := hidden (KQ.out.step q62); replace K11 := hidden (K11.out.step q62); replace KX := hidden (KX.out.step q62); have mk_fverifyRead_1 : Hid True := trivial; clear q62)
              | (go_at_call 12; refine (HAb.out _ _ KX.out.now KL.out.now).mono ?_; rintro e x61 ⟨rfl, q61⟩; replace KU := hidden (KU.out.step q61); replace KW := hidden (KW.out.step q61); replace KL := hidden (KL.out.step q61); replace KP := hidden (KP.out.step q61); replace K5 := hidden (K5.out.step q61); replace K6 := hidden (K6.out.step q61); replace K9 := hidden (K9.out.step q61); replace KQ := hidden (KQ.out.step q61); replace K11 := hidden (K11.out.step q61); replace KX := hidden (KX.out.step q61); have mk_fverifyAbsent_1 : Hid True := trivial; clear q61))
            all_goals go_ret
            all_goals exact ⟨rfl, KW.out.now⟩
          · have zE : (if R = other then (0 : Int) else 11) = 11 := HEO.out hor
            rw [zE] at HRe
            rw [decide_eq_false hor] at hqO
            clear HEO hor zE
            go_wp2_with (first
              | ((with_reducible refine at_ldd 117 9 ?_); refine wpList_ld _ rfl _ _ rfl g9 _ rfl K9.out.now _ _ Tryz.underlying25 HSR.out.1 ?_)
              | ((with_reducible refine at_ldd 118 5 ?_); refine wpList_ld _ rfl _ _ rfl g5 _ rfl K5.out.now _ _ Tryz.underlying24 HSk.out ?_)
              | ((with_reducible refine at_ldd 123 6 ?_); refine wpList_ld _ rfl _ _ rfl g6 _ rfl K6.out.now _ _ Tryz.underlying25 HSO.out.1 ?_)
              | ((with_reducible refine at_ldd 124 5 ?_); refine wpList_ld _ rfl _ _ rfl g5 _ rfl K5.out.now _ _ Tryz.underlying24 HSk.out ?_)
              | ((with_reducible refine at_ald 19 ?_); refine wpList_al _ rfl _ rfl _ zero_said ?_; intro x63 g19 hg19 hl63 bq63 q63; clear hl63)
              | ((with_reducible refine at_st 19 ?_); refine wpList_sto _ rfl _ _ _ rfl g19 _ (SD) rfl rfl bq63 HSD.out.1 HSD.out.2 HOn.out ?_; intro x64 by64 r64; have q64 := below_row q63 r64 hg19; replace KU := hidden (KU.out.step q64); replace KW := hidden (KW.out.step q64); replace KL := hidden (KL.out.step q64); replace KP := hidden (KP.out.step q64); replace K5 := hidden (K5.out.step q64); replace K6 := hidden (K6.out.step q64); replace K9 := hidden (K9.out.step q64); replace KQ := hidden (KQ.out.step q64); replace K11 := hidden (K11.out.step q64); replace KX := hidden (KX.out.step q64); have K19 := hidden by64.kp; clear q64 q63 r64 by64 bq63 hg19)
              | ((with_reducible refine at_ldd 129 6 ?_); refine wpList_ld _ rfl _ _ rfl g6 _ rfl K6.out.now _ _ Tryz.underlying25 HSO.out.1 ?_)
              | ((with_reducible refine at_ldd 130 9 ?_); refine wpList_ld _ rfl _ _ rfl g9 _ rfl K9.out.now _ _ Tryz.underlying25 HSR.out.1 ?_)
              | (go_at_call 6; refine (HRe.out _ _ KX.out.now KL.out.now).mono ?_; rintro e x62 ⟨rfl, q62⟩; replace KU := hidden (KU.out.step q62); replace KW := hidden (KW.out.step q62); replace KL := hidden (KL.out.step q62); replace KP := hidden (KP.out.step q62); replace K5 := hidden (K5.out.step q62); replace K6 := hidden (K6.out.step q62); replace K9 := hidden (K9.out.step q62); replace KQ := hidden (KQ.out.step q62); replace K11 := hidden (K11.out.step q62); replace KX := hidden (KX.out.step q62); have mk_fverifyRead_1 : Hid True := trivial; clear q62)
              | (go_at_call 12; refine (HAb.out _ _ KX.out.now KL.out.now).mono ?_; rintro e x61 ⟨rfl, q61⟩; replace KU := hidden (KU.out.step q61); replace KW := hidden (KW.out.step q61); replace KL := hidden (KL.out.step q61); replace KP := hidden (KP.out.step q61); replace K5 := hidden (K5.out.step q61); replace K6 := hidden (K6.out.step q61); replace K9 := hidden (K9.out.step q61); replace KQ := hidden (KQ.out.step q61); replace K11 := hidden (K11.out.step q61); replace KX := hidden (KX.out.step q61); have mk_fverifyAbsent_1 : Hid True := trivial; clear q61))
            all_goals go_ret
            all_goals exact ⟨rfl, KW.out.now⟩
    · obtain rfl : n = m := hfcase h40
      have z40 : ¬ (40 : Int) < (n : Int) := by omega
      clear hz40 hfcase h40 hsm hcap
      go_enter Tryz.func3, Tryz.ntmps3
      go_wp2_with (first
        | ((with_reducible refine at_bxd 5 ?_); refine wpList_bx _ rfl _ _ rfl _ rfl ?_; intro x1 g5 hg1 hl1 bq1 q1; replace KU := hidden (KU.out.step q1); replace KW := hidden (KW.out.step q1); replace KL := hidden (KL.out.step q1); replace KP := hidden (KP.out.step q1); have K5 := hidden bq1.kp; clear hg1 hl1 bq1 q1)
        | ((with_reducible refine at_bxd 6 ?_); refine wpList_bx _ rfl _ _ rfl _ rfl ?_; intro x2 g6 hg2 hl2 bq2 q2; replace KU := hidden (KU.out.step q2); replace KW := hidden (KW.out.step q2); replace KL := hidden (KL.out.step q2); replace KP := hidden (KP.out.step q2); replace K5 := hidden (K5.out.step q2); have K6 := hidden bq2.kp; clear hg2 hl2 bq2 q2)
        | ((with_reducible refine at_ald 9 ?_); refine wpList_al _ rfl _ rfl _ zero_hash ?_; intro x4 g9 hg9 hl4 bq4 q4; clear hl4)
        | ((with_reducible refine at_st 9 ?_); refine wpList_sto _ rfl _ _ _ rfl g9 _ ((B R)) rfl rfl bq4 HSR.out.1 HSR.out.2 (B_one _) ?_; intro x5 by5 r5; have q5 := below_row q4 r5 hg9; replace KU := hidden (KU.out.step q5); replace KW := hidden (KW.out.step q5); replace KL := hidden (KL.out.step q5); replace KP := hidden (KP.out.step q5); replace K5 := hidden (K5.out.step q5); replace K6 := hidden (K6.out.step q5); have K9 := hidden by5.kp; clear q5 q4 r5 by5 bq4 hg9)
        | ((with_reducible refine at_ldd 33 5 ?_); refine wpList_ld _ rfl _ _ rfl g5 _ rfl K5.out.now _ _ Tryz.underlying24 HSk.out ?_)
        | ((with_reducible refine at_ald 11 ?_); refine wpList_al _ rfl _ rfl _ zero_proof ?_; intro x7 g11 hg11 hl7 bq7 q7; clear hl7)
        | ((with_reducible refine at_st 11 ?_); refine wpList_sto _ rfl _ _ _ rfl g11 _ ((encR (.slice sa sl sc) N).toArray) rfl rfl bq7 (HSP.out _).1 (HSP.out _).2 (encR_one _ _ _ _) ?_; intro x8 by8 r8; have q8 := below_row q7 r8 hg11; replace KU := hidden (KU.out.step q8); replace KW := hidden (KW.out.step q8); replace KL := hidden (KL.out.step q8); replace KP := hidden (KP.out.step q8); replace K5 := hidden (K5.out.step q8); replace K6 := hidden (K6.out.step q8); replace K9 := hidden (K9.out.step q8); replace KQ := hidden (KQ.out.step q8); have K11 := hidden by8.kp; clear q8 q7 r8 by8 bq7 hg11)
        | ((with_reducible refine at_ldd 57 11 ?_); refine wpList_lds _ rfl _ _ rfl g11 _ _ rfl K11.out.now HUP.out (HSP.out _).1 ?_)
        | (go_at_call 7; refine (HEn.out _ _ _ KQ.out.now KL.out.now).mono ?_; rintro e x9 ⟨xa, xc, rfl, hx, q9⟩; replace KU := hidden (KU.out.step q9); replace KW := hidden (KW.out.step q9); replace KL := hidden (KL.out.step q9); replace KP := hidden (KP.out.step q9); replace K5 := hidden (K5.out.step q9); replace K6 := hidden (K6.out.step q9); replace K9 := hidden (K9.out.step q9); replace KQ := hidden (KQ.out.step q9); replace K11 := hidden (K11.out.step q9); have KX := hidden hx.kp; clear hx; have mk_fpackEncode_1 : Hid True := trivial; clear q9)
        | (go_at_call 5; refine (HWy.out _ KP.out.now KL.out.now).mono ?_; rintro e x6 ⟨sa, sc, rfl, hq, q6⟩; replace KU := hidden (KU.out.step q6); replace KW := hidden (KW.out.step q6); replace KL := hidden (KL.out.step q6); replace KP := hidden (KP.out.step q6); replace K5 := hidden (K5.out.step q6); replace K6 := hidden (K6.out.step q6); replace K9 := hidden (K9.out.step q6); have KQ := hidden hq.kp; clear hq; have mk_fnodeWay_1 : Hid True := trivial; clear q6)
        | (go_at_call 4; refine (HRo.out _ KP.out.now KL.out.now).mono ?_; rintro e x3 ⟨rfl, q3⟩; replace KU := hidden (KU.out.step q3); replace KW := hidden (KW.out.step q3); replace KL := hidden (KL.out.step q3); replace KP := hidden (KP.out.step q3); replace K5 := hidden (K5.out.step q3); replace K6 := hidden (K6.out.step q3); have mk_fnodeRoot_1 : Hid True := trivial; clear q3))
      go_loopw [17, 18] (fun xv iv wr => ∃ (i : Nat) (th : Bool), i ≤ n ∧ xv = .bool th ∧ iv = .int .i64 (i : Int) ∧ Hid (th = amg fs key i) ∧ Hid (Below x9.heap.size x9 wr)) (fun _ iv _ => n - (intOf iv).toNat)
      case atStart => exact ⟨0, false, by omega, rfl, rfl, (amg_zero fs key).symm, Below.refl _ _⟩
      case round =>
        obtain ⟨i, th, hi, rfl, rfl, hth, hb⟩ := hrel
        replace KU := hidden (KU.out.step hb.out)
        replace KW := hidden (KW.out.step hb.out)
        replace KL := hidden (KL.out.step hb.out)
        replace KP := hidden (KP.out.step hb.out)
        replace K5 := hidden (K5.out.step hb.out)
        replace K6 := hidden (K6.out.step hb.out)
        replace K9 := hidden (K9.out.step hb.out)
        replace KQ := hidden (KQ.out.step hb.out)
        replace K11 := hidden (K11.out.step hb.out)
        replace KX := hidden (KX.out.step hb.out)
        by_cases hlt : i < n
        · have z1 : (i : Int) < (n : Int) := by omega
          have z0 : (0 : Int) ≤ (i : Int) := by omega
          obtain ⟨lb, off, pa, pc, hva, hVi, _, _⟩ := HPF.out _ i KP.out.now hlt
          subst hva
          have HRG : Hid (∀ w', Below wr.heap.size wr w' → w'.rangeAt lb (off + i * 33) (encP (fs.getD i e00).1 (.slice pa (fs.getD i e00).2.length pc))) := fun w' h => by
            obtain ⟨lb', off', _, _, e1, _, e2, _⟩ := HPF.out w' i (KP.out _ h) hlt
            injection e1 with e1
            injection e1 with e3 e4
            subst e3 e4
            rwa [hVi] at e2
          have HRD : Hid (∀ w', Below wr.heap.size wr w' → Reads w' (.slice pa (fs.getD i e00).2.length pc) (fs.getD i e00).2) := fun w' h => by
            obtain ⟨_, _, _, _, _, _, _, e2⟩ := HPF.out w' i (KP.out _ h) hlt
            rwa [hVi] at e2
          have HK32 : Hid ((fs.getD i e00).1.length = 32) := (HKl.out i hlt).1
          have HVL : Hid ((fs.getD i e00).2.length ≤ 140737488355328 - 4096) := by have := (HKl.out i hlt).2; show _ ≤ _; omega
          have HKL : Hid ((Tryz.prog.info? 24).map (·.size) = some (B (fs.getD i e00).1).toList.length) := path_ln _ HK32.out
          have hqi := HQK.out i hlt
          have hPi := HPi.out i hlt
          have HAM : Hid (∀ x, x = decide ((fs.getD i e00).1 = key) → (th || x) = amg fs key (i + 1)) := fun x hx => by rw [amg_succ (by have := HNF.out; omega), ← hth.out, hx]
          have HPs1 : Hid (∀ w' x xv, Reads w' x (fs.getD i e00).2 → Reads w' xv X → Laid w' → Calls Tryz.prog 8 #[.agg (B R), .agg (B key), x, xv] w' fun e w'' => e = .returned (.bool (psB R key (fs.getD i e00).2 X k a b c d)) ∧ Below w'.heap.size w' w'') := fun w' x xv => HPs.out w' x _ xv
          have HPs2 : Hid (∀ w' x xv, Reads w' x ys → Reads w' xv X → Laid w' → Calls Tryz.prog 8 #[.agg (B R), .agg (B key), x, xv] w' fun e w'' => e = .returned (.bool (psB R key ys X k a b c d)) ∧ Below w'.heap.size w' w'') := fun w' x xv => HPs.out w' x _ xv
          have HSm1 : Hid (∀ w' x y, Reads w' x ys → Reads w' y (fs.getD i e00).2 → Calls Tryz.prog 9 #[x, y] w' fun e w'' => e = .returned (.bool (decide (ys = (fs.getD i e00).2))) ∧ w'' = w') := fun w' x y => HSm.out w' x y _ _
          have hCl1 : ys ≠ (fs.getD i e00).2 → vaD ys = vaD (fs.getD i e00).2 → ∀ w' x y, Reads w' x (3 :: ys) → Reads w' y (3 :: (fs.getD i e00).2) → Laid w' → Calls Tryz.prog 10 #[.agg #[x, y]] w' fun e w'' => e = .returned (.bool true) ∧ Below w'.heap.size w' w'' := fun q1 q2 w' x y h1 h2 h3 => HCl.out w' x y _ _ h1 h2 h3 HLy.out HVL.out q2 q1
          clear HPs HSm HCl hVi HQK HKl HPi HPF
          generalize (fs.getD i e00).1 = Ki at *
          generalize (fs.getD i e00).2 = bi at *
          obtain ⟨pl, hpl⟩ : ∃ pl, pl = bi.length := ⟨_, rfl⟩
          rw [← hpl] at HRG HRD
          clear hpl
          by_cases hkk : Ki = key
          · have hdk : decide (Ki = key) = true := decide_eq_true hkk
            obtain ⟨hp1, hp2⟩ := hPi hkk
            replace HAM := hidden (HAM.out true hdk.symm)
            rw [hdk] at hqi
            rw [Bool.or_true] at HAM
            rw [hp1] at HPs1
            clear hPi hp1 hkk hdk
            go_wp2
            refine wp_region_held_drew (S := fun w' => Below wr.heap.size wr w') (by kernel_rfl) (below_drewN (Below.refl _ _) 1) (fun hHeld => ?_)
            refine wpAnyH_take (i := 0) (v := .slice (some ⟨lb, off, none⟩) n cap) rfl (by kernel_rfl) (by kernel_rfl) (by kernel_rfl) (fun _ _ _ h => h) (Or.inl ⟨by rfl, fun w hS => by go_simp⟩) hHeld ?_
            simp only [Act.put, List.getElem_toArray, List.getElem_cons_zero, List.setIfInBounds_toArray, List.set_cons_zero, List.set_cons_succ]
            refine wpAnyH_take (i := 1) (v := .int .i64 (i : Int)) rfl (by kernel_rfl) (by kernel_rfl) (by kernel_rfl) (fun _ _ _ h => h) (Or.inl ⟨by rfl, fun w hS => by go_simp⟩) hHeld ?_
            simp only [Act.put, List.getElem_toArray, List.getElem_cons_zero, List.getElem_cons_succ, List.setIfInBounds_toArray, List.set_cons_zero, List.set_cons_succ]
            refine wpAnyH_take (i := 2) (v := .pointer (some ⟨lb, off + i * 33, none⟩)) rfl (by kernel_rfl) (by kernel_rfl) (by kernel_rfl) (fun _ _ _ h => h) (Or.inl ⟨by rfl, fun w hS => by go_simp⟩) hHeld ?_
            simp only [Act.put, List.getElem_toArray, List.getElem_cons_zero, List.getElem_cons_succ, List.setIfInBounds_toArray, List.set_cons_zero, List.set_cons_succ]
            refine wpAnyH_take (i := 3) (v := .pointer (some ⟨lb, off + i * 33, none⟩)) rfl (by kernel_rfl) (by kernel_rfl) (by kernel_rfl) (fun _ _ _ h => h) (Or.inl ⟨by rfl, fun w hS => by go_simp⟩) hHeld ?_
            simp only [Act.put, List.getElem_toArray, List.getElem_cons_zero, List.getElem_cons_succ, List.setIfInBounds_toArray, List.set_cons_zero, List.set_cons_succ]
            refine wpAnyH_take (i := 4) (v := .agg (B Ki)) rfl (by kernel_rfl) (by kernel_rfl) (by kernel_rfl) (fun _ _ _ h => h) (yieldsIf_load_mid rfl 24 (.tmp 72) rfl lb (off + i * 33) rfl (B Ki).toList _ (fun w hS => rng_key (HRG.out _ hS)) Tryz.underlying24 rfl HKL.out) hHeld ?_
            simp only [Act.put, List.getElem_toArray, List.getElem_cons_zero, List.getElem_cons_succ, List.setIfInBounds_toArray, List.set_cons_zero, List.set_cons_succ]
            refine wpAnyH_take (i := 5) (v := .agg (B key)) rfl (by kernel_rfl) (by kernel_rfl) (by kernel_rfl) (fun _ _ _ h => h) (yieldsIf_load_mid rfl 24 (.tmp 5) rfl g5 (0) rfl (B key).toList _ (fun w hS => (K5.out _ hS).range) Tryz.underlying24 rfl HLk.out) hHeld ?_
            simp only [Act.put, List.getElem_toArray, List.getElem_cons_zero, List.getElem_cons_succ, List.setIfInBounds_toArray, List.set_cons_zero, List.set_cons_succ]
            refine wpAnyH_take (i := 6) (v := .bool true) rfl (by kernel_rfl) (by kernel_rfl) (by kernel_rfl) (fun _ _ _ h => h) (Or.inl ⟨by rfl, fun w hS => by go_simp⟩) hHeld ?_
            simp only [Act.put, List.getElem_toArray, List.getElem_cons_zero, List.getElem_cons_succ, List.setIfInBounds_toArray, List.set_cons_zero, List.set_cons_succ]
            refine wpAnyH_done (by kernel_rfl) ?_ _
            go_wp2
            by_cases hps : psB R key ys X k a b c d = true
            · rw [hps] at HPs2
              have hvv := hp2 hps
              clear hp2 hps
              by_cases hsm : ys = bi
              · rw [decide_eq_true hsm] at HSm1
                clear hCl1 hsm hvv
                refine wp_region_held_drew (S := fun w' => Below wr.heap.size wr w') (by kernel_rfl) (below_drewN hHeld 1) (fun hHeld => ?_)
                refine wpAnyH_take (i := 0) (v := .agg (B R)) rfl (by kernel_rfl) (by kernel_rfl) (by kernel_rfl) (fun _ _ _ h => h) (yieldsIf_load_mid rfl 25 (.tmp 9) rfl g9 (0) rfl (B R).toList _ (fun w hS => (K9.out _ hS).range) Tryz.underlying25 rfl HLR.out) hHeld ?_
                simp only [Act.put, List.getElem_toArray, List.getElem_cons_zero, List.setIfInBounds_toArray, List.set_cons_zero, List.set_cons_succ]
                refine wpAnyH_take (i := 1) (v := .agg (B key)) rfl (by kernel_rfl) (by kernel_rfl) (by kernel_rfl) (fun _ _ _ h => h) (yieldsIf_load_mid rfl 24 (.tmp 5) rfl g5 (0) rfl (B key).toList _ (fun w hS => (K5.out _ hS).range) Tryz.underlying24 rfl HLk.out) hHeld ?_
                simp only [Act.put, List.getElem_toArray, List.getElem_cons_zero, List.getElem_cons_succ, List.setIfInBounds_toArray, List.set_cons_zero, List.set_cons_succ]
                refine wpAnyH_take (i := 2) (v := .slice (some ⟨lb, off, none⟩) n cap) rfl (by kernel_rfl) (by kernel_rfl) (by kernel_rfl) (fun _ _ _ h => h) (Or.inl ⟨by rfl, fun w hS => by go_simp⟩) hHeld ?_
                simp only [Act.put, List.getElem_toArray, List.getElem_cons_zero, List.getElem_cons_succ, List.setIfInBounds_toArray, List.set_cons_zero, List.set_cons_succ]
                refine wpAnyH_take (i := 3) (v := .int .i64 (i : Int)) rfl (by kernel_rfl) (by kernel_rfl) (by kernel_rfl) (fun _ _ _ h => h) (Or.inl ⟨by rfl, fun w hS => by go_simp⟩) hHeld ?_
                simp only [Act.put, List.getElem_toArray, List.getElem_cons_zero, List.getElem_cons_succ, List.setIfInBounds_toArray, List.set_cons_zero, List.set_cons_succ]
                refine wpAnyH_take (i := 4) (v := .pointer (some ⟨lb, off + i * 33, none⟩)) rfl (by kernel_rfl) (by kernel_rfl) (by kernel_rfl) (fun _ _ _ h => h) (Or.inl ⟨by rfl, fun w hS => by go_simp⟩) hHeld ?_
                simp only [Act.put, List.getElem_toArray, List.getElem_cons_zero, List.getElem_cons_succ, List.setIfInBounds_toArray, List.set_cons_zero, List.set_cons_succ]
                refine wpAnyH_take (i := 5) (v := .pointer (some ⟨lb, off + i * 33 + 32, none⟩)) rfl (by kernel_rfl) (by kernel_rfl) (by kernel_rfl) (fun _ _ _ h => h) (Or.inl ⟨by rfl, fun w hS => by go_simp⟩) hHeld ?_
                simp only [Act.put, List.getElem_toArray, List.getElem_cons_zero, List.getElem_cons_succ, List.setIfInBounds_toArray, List.set_cons_zero, List.set_cons_succ]
                refine wpAnyH_take (i := 6) (v := .slice pa pl pc) rfl (by kernel_rfl) (by kernel_rfl) (by kernel_rfl) (fun _ _ _ h => h) (Or.inl ⟨by rfl, fun w hS => by (have q1 := rng_val (HRG.out _ hS) HK32.out; go_simp)⟩) hHeld ?_
                simp only [Act.put, List.getElem_toArray, List.getElem_cons_zero, List.getElem_cons_succ, List.setIfInBounds_toArray, List.set_cons_zero, List.set_cons_succ]
                refine wpAnyH_take (i := 7) (v := .slice xa L xc) rfl (by kernel_rfl) (by kernel_rfl) (by kernel_rfl) (fun _ _ _ h => h) (Or.inl ⟨by rfl, fun w hS => by go_simp⟩) hHeld ?_
                simp only [Act.put, List.getElem_toArray, List.getElem_cons_zero, List.getElem_cons_succ, List.setIfInBounds_toArray, List.set_cons_zero, List.set_cons_succ]
                refine wpAnyH_ready (rs := [8]) (by kernel_rfl) (by simp) ?_
                refine AllReadyH.cons rfl (fun KQ hK => ?_) AllReadyH.nil
                go_simp
                refine (HPs1.out _ _ _ (HRD.out _ hHeld) (KX.out _ hHeld) (KL.out _ hHeld)).mono ?_
                rintro e y1 ⟨rfl, a1⟩
                refine hK.out _ _ (grow_trans hHeld a1) (fun hHeld => ?_)
                clear hK KQ
                refine wpAnyH_take (i := 9) (v := .bool false) rfl (by kernel_rfl) (by kernel_rfl) (by kernel_rfl) (fun _ _ _ h => h) (Or.inl ⟨by rfl, fun w hS => by go_simp⟩) hHeld ?_
                simp only [Act.put, List.getElem_toArray, List.getElem_cons_zero, List.getElem_cons_succ, List.setIfInBounds_toArray, List.set_cons_zero, List.set_cons_succ]
                refine wpAnyH_take (i := 10) (v := .bool false) rfl (by kernel_rfl) (by kernel_rfl) (by kernel_rfl) (fun _ _ _ h => h) (Or.inl ⟨by rfl, fun w hS => by go_simp⟩) hHeld ?_
                simp only [Act.put, List.getElem_toArray, List.getElem_cons_zero, List.getElem_cons_succ, List.setIfInBounds_toArray, List.set_cons_zero, List.set_cons_succ]
                refine wpAnyH_take (i := 11) (v := .agg (B R)) rfl (by kernel_rfl) (by kernel_rfl) (by kernel_rfl) (fun _ _ _ h => h) (yieldsIf_load_mid rfl 25 (.tmp 9) rfl g9 (0) rfl (B R).toList _ (fun w hS => (K9.out _ hS).range) Tryz.underlying25 rfl HLR.out) hHeld ?_
                simp only [Act.put, List.getElem_toArray, List.getElem_cons_zero, List.getElem_cons_succ, List.setIfInBounds_toArray, List.set_cons_zero, List.set_cons_succ]
                refine wpAnyH_take (i := 12) (v := .agg (B key)) rfl (by kernel_rfl) (by kernel_rfl) (by kernel_rfl) (fun _ _ _ h => h) (yieldsIf_load_mid rfl 24 (.tmp 5) rfl g5 (0) rfl (B key).toList _ (fun w hS => (K5.out _ hS).range) Tryz.underlying24 rfl HLk.out) hHeld ?_
                simp only [Act.put, List.getElem_toArray, List.getElem_cons_zero, List.getElem_cons_succ, List.setIfInBounds_toArray, List.set_cons_zero, List.set_cons_succ]
                refine wpAnyH_take (i := 13) (v := .slice ua ul uc) rfl (by kernel_rfl) (by kernel_rfl) (by kernel_rfl) (fun _ _ _ h => h) (Or.inl ⟨by rfl, fun w hS => by go_simp⟩) hHeld ?_
                simp only [Act.put, List.getElem_toArray, List.getElem_cons_zero, List.getElem_cons_succ, List.setIfInBounds_toArray, List.set_cons_zero, List.set_cons_succ]
                refine wpAnyH_take (i := 14) (v := .slice xa L xc) rfl (by kernel_rfl) (by kernel_rfl) (by kernel_rfl) (fun _ _ _ h => h) (Or.inl ⟨by rfl, fun w hS => by go_simp⟩) hHeld ?_
                simp only [Act.put, List.getElem_toArray, List.getElem_cons_zero, List.getElem_cons_succ, List.setIfInBounds_toArray, List.set_cons_zero, List.set_cons_succ]
                refine wpAnyH_ready (rs := [15]) (by kernel_rfl) (by simp) ?_
                refine AllReadyH.cons rfl (fun KQ hK => ?_) AllReadyH.nil
                go_simp
                refine (HPs2.out _ _ _ (KU.out _ hHeld) (KX.out _ hHeld) (KL.out _ hHeld)).mono ?_
                rintro e y2 ⟨rfl, a2⟩
                refine hK.out _ _ (grow_trans hHeld a2) (fun hHeld => ?_)
                clear hK KQ
                refine wpAnyH_take (i := 16) (v := .bool true) rfl (by kernel_rfl) (by kernel_rfl) (by kernel_rfl) (fun _ _ _ h => h) (Or.inl ⟨by rfl, fun w hS => by go_simp⟩) hHeld ?_
                simp only [Act.put, List.getElem_toArray, List.getElem_cons_zero, List.getElem_cons_succ, List.setIfInBounds_toArray, List.set_cons_zero, List.set_cons_succ]
                refine wpAnyH_take (i := 17) (v := .slice ua ul uc) rfl (by kernel_rfl) (by kernel_rfl) (by kernel_rfl) (fun _ _ _ h => h) (Or.inl ⟨by rfl, fun w hS => by go_simp⟩) hHeld ?_
                simp only [Act.put, List.getElem_toArray, List.getElem_cons_zero, List.getElem_cons_succ, List.setIfInBounds_toArray, List.set_cons_zero, List.set_cons_succ]
                refine wpAnyH_take (i := 18) (v := .slice (some ⟨lb, off, none⟩) n cap) rfl (by kernel_rfl) (by kernel_rfl) (by kernel_rfl) (fun _ _ _ h => h) (Or.inl ⟨by rfl, fun w hS => by go_simp⟩) hHeld ?_
                simp only [Act.put, List.getElem_toArray, List.getElem_cons_zero, List.getElem_cons_succ, List.setIfInBounds_toArray, List.set_cons_zero, List.set_cons_succ]
                refine wpAnyH_take (i := 19) (v := .int .i64 (i : Int)) rfl (by kernel_rfl) (by kernel_rfl) (by kernel_rfl) (fun _ _ _ h => h) (Or.inl ⟨by rfl, fun w hS => by go_simp⟩) hHeld ?_
                simp only [Act.put, List.getElem_toArray, List.getElem_cons_zero, List.getElem_cons_succ, List.setIfInBounds_toArray, List.set_cons_zero, List.set_cons_succ]
                refine wpAnyH_take (i := 20) (v := .pointer (some ⟨lb, off + i * 33, none⟩)) rfl (by kernel_rfl) (by kernel_rfl) (by kernel_rfl) (fun _ _ _ h => h) (Or.inl ⟨by rfl, fun w hS => by go_simp⟩) hHeld ?_
                simp only [Act.put, List.getElem_toArray, List.getElem_cons_zero, List.getElem_cons_succ, List.setIfInBounds_toArray, List.set_cons_zero, List.set_cons_succ]
                refine wpAnyH_take (i := 21) (v := .pointer (some ⟨lb, off + i * 33 + 32, none⟩)) rfl (by kernel_rfl) (by kernel_rfl) (by kernel_rfl) (fun _ _ _ h => h) (Or.inl ⟨by rfl, fun w hS => by go_simp⟩) hHeld ?_
                simp only [Act.put, List.getElem_toArray, List.getElem_cons_zero, List.getElem_cons_succ, List.setIfInBounds_toArray, List.set_cons_zero, List.set_cons_succ]
                refine wpAnyH_take (i := 22) (v := .slice pa pl pc) rfl (by kernel_rfl) (by kernel_rfl) (by kernel_rfl) (fun _ _ _ h => h) (Or.inl ⟨by rfl, fun w hS => by (have q1 := rng_val (HRG.out _ hS) HK32.out; go_simp)⟩) hHeld ?_
                simp only [Act.put, List.getElem_toArray, List.getElem_cons_zero, List.getElem_cons_succ, List.setIfInBounds_toArray, List.set_cons_zero, List.set_cons_succ]
                refine wpAnyH_ready (rs := [23]) (by kernel_rfl) (by simp) ?_
                refine AllReadyH.cons rfl (fun KQ hK => ?_) AllReadyH.nil
                go_simp
                refine (HSm1.out _ _ _ (KU.out _ hHeld) (HRD.out _ hHeld)).mono ?_
                rintro e y3 ⟨rfl, rfl⟩
                refine hK.out _ _ (hHeld) (fun hHeld => ?_)
                clear hK KQ
                refine wpAnyH_take (i := 24) (v := .bool false) rfl (by kernel_rfl) (by kernel_rfl) (by kernel_rfl) (fun _ _ _ h => h) (Or.inl ⟨by rfl, fun w hS => by go_simp⟩) hHeld ?_
                simp only [Act.put, List.getElem_toArray, List.getElem_cons_zero, List.getElem_cons_succ, List.setIfInBounds_toArray, List.set_cons_zero, List.set_cons_succ]
                refine wpAnyH_take (i := 25) (v := .bool false) rfl (by kernel_rfl) (by kernel_rfl) (by kernel_rfl) (fun _ _ _ h => h) (Or.inl ⟨by rfl, fun w hS => by go_simp⟩) hHeld ?_
                simp only [Act.put, List.getElem_toArray, List.getElem_cons_zero, List.getElem_cons_succ, List.setIfInBounds_toArray, List.set_cons_zero, List.set_cons_succ]
                refine wpAnyH_take (i := 26) (v := .bool false) rfl (by kernel_rfl) (by kernel_rfl) (by kernel_rfl) (fun _ _ _ h => h) (Or.inl ⟨by rfl, fun w hS => by go_simp⟩) hHeld ?_
                simp only [Act.put, List.getElem_toArray, List.getElem_cons_zero, List.getElem_cons_succ, List.setIfInBounds_toArray, List.set_cons_zero, List.set_cons_succ]
                refine wpAnyH_take (i := 27) (v := undef) rfl (by kernel_rfl) (by kernel_rfl) (by kernel_rfl) (fun _ _ _ h => h) (Or.inr ⟨by rfl, rfl⟩) hHeld ?_
                simp only [Act.put, List.getElem_toArray, List.getElem_cons_zero, List.getElem_cons_succ, List.setIfInBounds_toArray, List.set_cons_zero, List.set_cons_succ]
                refine wpAnyH_take (i := 28) (v := undef) rfl (by kernel_rfl) (by kernel_rfl) (by kernel_rfl) (fun _ _ _ h => h) (Or.inr ⟨by rfl, rfl⟩) hHeld ?_
                simp only [Act.put, List.getElem_toArray, List.getElem_cons_zero, List.getElem_cons_succ, List.setIfInBounds_toArray, List.set_cons_zero, List.set_cons_succ]
                refine wpAnyH_take (i := 29) (v := undef) rfl (by kernel_rfl) (by kernel_rfl) (by kernel_rfl) (fun _ _ _ h => h) (Or.inr ⟨by rfl, rfl⟩) hHeld ?_
                simp only [Act.put, List.getElem_toArray, List.getElem_cons_zero, List.getElem_cons_succ, List.setIfInBounds_toArray, List.set_cons_zero, List.set_cons_succ]
                refine wpAnyH_take (i := 30) (v := undef) rfl (by kernel_rfl) (by kernel_rfl) (by kernel_rfl) (fun _ _ _ h => h) (Or.inr ⟨by rfl, rfl⟩) hHeld ?_
                simp only [Act.put, List.getElem_toArray, List.getElem_cons_zero, List.getElem_cons_succ, List.setIfInBounds_toArray, List.set_cons_zero, List.set_cons_succ]
                refine wpAnyH_take (i := 31) (v := undef) rfl (by kernel_rfl) (by kernel_rfl) (by kernel_rfl) (fun _ _ _ h => h) (Or.inr ⟨by rfl, rfl⟩) hHeld ?_
                simp only [Act.put, List.getElem_toArray, List.getElem_cons_zero, List.getElem_cons_succ, List.setIfInBounds_toArray, List.set_cons_zero, List.set_cons_succ]
                refine wpAnyH_take (i := 32) (v := undef) rfl (by kernel_rfl) (by kernel_rfl) (by kernel_rfl) (fun _ _ _ h => h) (Or.inr ⟨by rfl, rfl⟩) hHeld ?_
                simp only [Act.put, List.getElem_toArray, List.getElem_cons_zero, List.getElem_cons_succ, List.setIfInBounds_toArray, List.set_cons_zero, List.set_cons_succ]
                refine wpAnyH_take (i := 33) (v := undef) rfl (by kernel_rfl) (by kernel_rfl) (by kernel_rfl) (fun _ _ _ h => h) (Or.inr ⟨by rfl, rfl⟩) hHeld ?_
                simp only [Act.put, List.getElem_toArray, List.getElem_cons_zero, List.getElem_cons_succ, List.setIfInBounds_toArray, List.set_cons_zero, List.set_cons_succ]
                refine wpAnyH_take (i := 34) (v := undef) rfl (by kernel_rfl) (by kernel_rfl) (by kernel_rfl) (fun _ _ _ h => h) (Or.inr ⟨by rfl, rfl⟩) hHeld ?_
                simp only [Act.put, List.getElem_toArray, List.getElem_cons_zero, List.getElem_cons_succ, List.setIfInBounds_toArray, List.set_cons_zero, List.set_cons_succ]
                refine wpAnyH_take (i := 35) (v := undef) rfl (by kernel_rfl) (by kernel_rfl) (by kernel_rfl) (fun _ _ _ h => h) (Or.inr ⟨by rfl, rfl⟩) hHeld ?_
                simp only [Act.put, List.getElem_toArray, List.getElem_cons_zero, List.getElem_cons_succ, List.setIfInBounds_toArray, List.set_cons_zero, List.set_cons_succ]
                refine wpAnyH_take (i := 36) (v := undef) rfl (by kernel_rfl) (by kernel_rfl) (by kernel_rfl) (fun _ _ _ h => h) (Or.inr ⟨by rfl, rfl⟩) hHeld ?_
                simp only [Act.put, List.getElem_toArray, List.getElem_cons_zero, List.getElem_cons_succ, List.setIfInBounds_toArray, List.set_cons_zero, List.set_cons_succ]
                refine wpAnyH_take (i := 37) (v := undef) rfl (by kernel_rfl) (by kernel_rfl) (by kernel_rfl) (fun _ _ _ h => h) (Or.inr ⟨by rfl, rfl⟩) hHeld ?_
                simp only [Act.put, List.getElem_toArray, List.getElem_cons_zero, List.getElem_cons_succ, List.setIfInBounds_toArray, List.set_cons_zero, List.set_cons_succ]
                refine wpAnyH_take (i := 38) (v := .bool false) rfl (by kernel_rfl) (by kernel_rfl) (by kernel_rfl) (fun _ _ _ h => h) (Or.inl ⟨by rfl, fun w hS => by go_simp⟩) hHeld ?_
                simp only [Act.put, List.getElem_toArray, List.getElem_cons_zero, List.getElem_cons_succ, List.setIfInBounds_toArray, List.set_cons_zero, List.set_cons_succ]
                refine wpAnyH_take (i := 39) (v := .bool false) rfl (by kernel_rfl) (by kernel_rfl) (by kernel_rfl) (fun _ _ _ h => h) (Or.inl ⟨by rfl, fun w hS => by go_simp⟩) hHeld ?_
                simp only [Act.put, List.getElem_toArray, List.getElem_cons_zero, List.getElem_cons_succ, List.setIfInBounds_toArray, List.set_cons_zero, List.set_cons_succ]
                refine wpAnyH_done (by kernel_rfl) ?_ _
                go_wp2
                exact ⟨⟨i + 1, true, by omega, rfl, by go_num, HAM.out, grow_trans hb.out hHeld⟩, by simp [intOf]; omega⟩
              · have HCl1 := hidden (hCl1 hsm hvv)
                rw [decide_eq_false hsm] at HSm1
                clear hCl1 hsm hvv
                refine wp_region_held_drew (S := fun w' => Below wr.heap.size wr w') (by kernel_rfl) (below_drewN hHeld 1) (fun hHeld => ?_)
                refine wpAnyH_take (i := 0) (v := .agg (B R)) rfl (by kernel_rfl) (by kernel_rfl) (by kernel_rfl) (fun _ _ _ h => h) (yieldsIf_load_mid rfl 25 (.tmp 9) rfl g9 (0) rfl (B R).toList _ (fun w hS => (K9.out _ hS).range) Tryz.underlying25 rfl HLR.out) hHeld ?_
                simp only [Act.put, List.getElem_toArray, List.getElem_cons_zero, List.setIfInBounds_toArray, List.set_cons_zero, List.set_cons_succ]
                refine wpAnyH_take (i := 1) (v := .agg (B key)) rfl (by kernel_rfl) (by kernel_rfl) (by kernel_rfl) (fun _ _ _ h => h) (yieldsIf_load_mid rfl 24 (.tmp 5) rfl g5 (0) rfl (B key).toList _ (fun w hS => (K5.out _ hS).range) Tryz.underlying24 rfl HLk.out) hHeld ?_
                simp only [Act.put, List.getElem_toArray, List.getElem_cons_zero, List.getElem_cons_succ, List.setIfInBounds_toArray, List.set_cons_zero, List.set_cons_succ]
                refine wpAnyH_take (i := 2) (v := .slice (some ⟨lb, off, none⟩) n cap) rfl (by kernel_rfl) (by kernel_rfl) (by kernel_rfl) (fun _ _ _ h => h) (Or.inl ⟨by rfl, fun w hS => by go_simp⟩) hHeld ?_
                simp only [Act.put, List.getElem_toArray, List.getElem_cons_zero, List.getElem_cons_succ, List.setIfInBounds_toArray, List.set_cons_zero, List.set_cons_succ]
                refine wpAnyH_take (i := 3) (v := .int .i64 (i : Int)) rfl (by kernel_rfl) (by kernel_rfl) (by kernel_rfl) (fun _ _ _ h => h) (Or.inl ⟨by rfl, fun w hS => by go_simp⟩) hHeld ?_
                simp only [Act.put, List.getElem_toArray, List.getElem_cons_zero, List.getElem_cons_succ, List.setIfInBounds_toArray, List.set_cons_zero, List.set_cons_succ]
                refine wpAnyH_take (i := 4) (v := .pointer (some ⟨lb, off + i * 33, none⟩)) rfl (by kernel_rfl) (by kernel_rfl) (by kernel_rfl) (fun _ _ _ h => h) (Or.inl ⟨by rfl, fun w hS => by go_simp⟩) hHeld ?_
                simp only [Act.put, List.getElem_toArray, List.getElem_cons_zero, List.getElem_cons_succ, List.setIfInBounds_toArray, List.set_cons_zero, List.set_cons_succ]
                refine wpAnyH_take (i := 5) (v := .pointer (some ⟨lb, off + i * 33 + 32, none⟩)) rfl (by kernel_rfl) (by kernel_rfl) (by kernel_rfl) (fun _ _ _ h => h) (Or.inl ⟨by rfl, fun w hS => by go_simp⟩) hHeld ?_
                simp only [Act.put, List.getElem_toArray, List.getElem_cons_zero, List.getElem_cons_succ, List.setIfInBounds_toArray, List.set_cons_zero, List.set_cons_succ]
                refine wpAnyH_take (i := 6) (v := .slice pa pl pc) rfl (by kernel_rfl) (by kernel_rfl) (by kernel_rfl) (fun _ _ _ h => h) (Or.inl ⟨by rfl, fun w hS => by (have q1 := rng_val (HRG.out _ hS) HK32.out; go_simp)⟩) hHeld ?_
                simp only [Act.put, List.getElem_toArray, List.getElem_cons_zero, List.getElem_cons_succ, List.setIfInBounds_toArray, List.set_cons_zero, List.set_cons_succ]
                refine wpAnyH_take (i := 7) (v := .slice xa L xc) rfl (by kernel_rfl) (by kernel_rfl) (by kernel_rfl) (fun _ _ _ h => h) (Or.inl ⟨by rfl, fun w hS => by go_simp⟩) hHeld ?_
                simp only [Act.put, List.getElem_toArray, List.getElem_cons_zero, List.getElem_cons_succ, List.setIfInBounds_toArray, List.set_cons_zero, List.set_cons_succ]
                refine wpAnyH_ready (rs := [8]) (by kernel_rfl) (by simp) ?_
                refine AllReadyH.cons rfl (fun KQ hK => ?_) AllReadyH.nil
                go_simp
                refine (HPs1.out _ _ _ (HRD.out _ hHeld) (KX.out _ hHeld) (KL.out _ hHeld)).mono ?_
                rintro e y1 ⟨rfl, a1⟩
                refine hK.out _ _ (grow_trans hHeld a1) (fun hHeld => ?_)
                clear hK KQ
                refine wpAnyH_take (i := 9) (v := .bool false) rfl (by kernel_rfl) (by kernel_rfl) (by kernel_rfl) (fun _ _ _ h => h) (Or.inl ⟨by rfl, fun w hS => by go_simp⟩) hHeld ?_
                simp only [Act.put, List.getElem_toArray, List.getElem_cons_zero, List.getElem_cons_succ, List.setIfInBounds_toArray, List.set_cons_zero, List.set_cons_succ]
                refine wpAnyH_take (i := 10) (v := .bool false) rfl (by kernel_rfl) (by kernel_rfl) (by kernel_rfl) (fun _ _ _ h => h) (Or.inl ⟨by rfl, fun w hS => by go_simp⟩) hHeld ?_
                simp only [Act.put, List.getElem_toArray, List.getElem_cons_zero, List.getElem_cons_succ, List.setIfInBounds_toArray, List.set_cons_zero, List.set_cons_succ]
                refine wpAnyH_take (i := 11) (v := .agg (B R)) rfl (by kernel_rfl) (by kernel_rfl) (by kernel_rfl) (fun _ _ _ h => h) (yieldsIf_load_mid rfl 25 (.tmp 9) rfl g9 (0) rfl (B R).toList _ (fun w hS => (K9.out _ hS).range) Tryz.underlying25 rfl HLR.out) hHeld ?_
                simp only [Act.put, List.getElem_toArray, List.getElem_cons_zero, List.getElem_cons_succ, List.setIfInBounds_toArray, List.set_cons_zero, List.set_cons_succ]
                refine wpAnyH_take (i := 12) (v := .agg (B key)) rfl (by kernel_rfl) (by kernel_rfl) (by kernel_rfl) (fun _ _ _ h => h) (yieldsIf_load_mid rfl 24 (.tmp 5) rfl g5 (0) rfl (B key).toList _ (fun w hS => (K5.out _ hS).range) Tryz.underlying24 rfl HLk.out) hHeld ?_
                simp only [Act.put, List.getElem_toArray, List.getElem_cons_zero, List.getElem_cons_succ, List.setIfInBounds_toArray, List.set_cons_zero, List.set_cons_succ]
                refine wpAnyH_take (i := 13) (v := .slice ua ul uc) rfl (by kernel_rfl) (by kernel_rfl) (by kernel_rfl) (fun _ _ _ h => h) (Or.inl ⟨by rfl, fun w hS => by go_simp⟩) hHeld ?_
                simp only [Act.put, List.getElem_toArray, List.getElem_cons_zero, List.getElem_cons_succ, List.setIfInBounds_toArray, List.set_cons_zero, List.set_cons_succ]
                refine wpAnyH_take (i := 14) (v := .slice xa L xc) rfl (by kernel_rfl) (by kernel_rfl) (by kernel_rfl) (fun _ _ _ h => h) (Or.inl ⟨by rfl, fun w hS => by go_simp⟩) hHeld ?_
                simp only [Act.put, List.getElem_toArray, List.getElem_cons_zero, List.getElem_cons_succ, List.setIfInBounds_toArray, List.set_cons_zero, List.set_cons_succ]
                refine wpAnyH_ready (rs := [15]) (by kernel_rfl) (by simp) ?_
                refine AllReadyH.cons rfl (fun KQ hK => ?_) AllReadyH.nil
                go_simp
                refine (HPs2.out _ _ _ (KU.out _ hHeld) (KX.out _ hHeld) (KL.out _ hHeld)).mono ?_
                rintro e y2 ⟨rfl, a2⟩
                refine hK.out _ _ (grow_trans hHeld a2) (fun hHeld => ?_)
                clear hK KQ
                refine wpAnyH_take (i := 16) (v := .bool true) rfl (by kernel_rfl) (by kernel_rfl) (by kernel_rfl) (fun _ _ _ h => h) (Or.inl ⟨by rfl, fun w hS => by go_simp⟩) hHeld ?_
                simp only [Act.put, List.getElem_toArray, List.getElem_cons_zero, List.getElem_cons_succ, List.setIfInBounds_toArray, List.set_cons_zero, List.set_cons_succ]
                refine wpAnyH_take (i := 17) (v := .slice ua ul uc) rfl (by kernel_rfl) (by kernel_rfl) (by kernel_rfl) (fun _ _ _ h => h) (Or.inl ⟨by rfl, fun w hS => by go_simp⟩) hHeld ?_
                simp only [Act.put, List.getElem_toArray, List.getElem_cons_zero, List.getElem_cons_succ, List.setIfInBounds_toArray, List.set_cons_zero, List.set_cons_succ]
                refine wpAnyH_take (i := 18) (v := .slice (some ⟨lb, off, none⟩) n cap) rfl (by kernel_rfl) (by kernel_rfl) (by kernel_rfl) (fun _ _ _ h => h) (Or.inl ⟨by rfl, fun w hS => by go_simp⟩) hHeld ?_
                simp only [Act.put, List.getElem_toArray, List.getElem_cons_zero, List.getElem_cons_succ, List.setIfInBounds_toArray, List.set_cons_zero, List.set_cons_succ]
                refine wpAnyH_take (i := 19) (v := .int .i64 (i : Int)) rfl (by kernel_rfl) (by kernel_rfl) (by kernel_rfl) (fun _ _ _ h => h) (Or.inl ⟨by rfl, fun w hS => by go_simp⟩) hHeld ?_
                simp only [Act.put, List.getElem_toArray, List.getElem_cons_zero, List.getElem_cons_succ, List.setIfInBounds_toArray, List.set_cons_zero, List.set_cons_succ]
                refine wpAnyH_take (i := 20) (v := .pointer (some ⟨lb, off + i * 33, none⟩)) rfl (by kernel_rfl) (by kernel_rfl) (by kernel_rfl) (fun _ _ _ h => h) (Or.inl ⟨by rfl, fun w hS => by go_simp⟩) hHeld ?_
                simp only [Act.put, List.getElem_toArray, List.getElem_cons_zero, List.getElem_cons_succ, List.setIfInBounds_toArray, List.set_cons_zero, List.set_cons_succ]
                refine wpAnyH_take (i := 21) (v := .pointer (some ⟨lb, off + i * 33 + 32, none⟩)) rfl (by kernel_rfl) (by kernel_rfl) (by kernel_rfl) (fun _ _ _ h => h) (Or.inl ⟨by rfl, fun w hS => by go_simp⟩) hHeld ?_
                simp only [Act.put, List.getElem_toArray, List.getElem_cons_zero, List.getElem_cons_succ, List.setIfInBounds_toArray, List.set_cons_zero, List.set_cons_succ]
                refine wpAnyH_take (i := 22) (v := .slice pa pl pc) rfl (by kernel_rfl) (by kernel_rfl) (by kernel_rfl) (fun _ _ _ h => h) (Or.inl ⟨by rfl, fun w hS => by (have q1 := rng_val (HRG.out _ hS) HK32.out; go_simp)⟩) hHeld ?_
                simp only [Act.put, List.getElem_toArray, List.getElem_cons_zero, List.getElem_cons_succ, List.setIfInBounds_toArray, List.set_cons_zero, List.set_cons_succ]
                refine wpAnyH_ready (rs := [23]) (by kernel_rfl) (by simp) ?_
                refine AllReadyH.cons rfl (fun KQ hK => ?_) AllReadyH.nil
                go_simp
                refine (HSm1.out _ _ _ (KU.out _ hHeld) (HRD.out _ hHeld)).mono ?_
                rintro e y3 ⟨rfl, rfl⟩
                refine hK.out _ _ (hHeld) (fun hHeld => ?_)
                clear hK KQ
                refine wpAnyH_take (i := 24) (v := .bool true) rfl (by kernel_rfl) (by kernel_rfl) (by kernel_rfl) (fun _ _ _ h => h) (Or.inl ⟨by rfl, fun w hS => by go_simp⟩) hHeld ?_
                simp only [Act.put, List.getElem_toArray, List.getElem_cons_zero, List.getElem_cons_succ, List.setIfInBounds_toArray, List.set_cons_zero, List.set_cons_succ]
                refine wpAnyH_take (i := 25) (v := .bool true) rfl (by kernel_rfl) (by kernel_rfl) (by kernel_rfl) (fun _ _ _ h => h) (Or.inl ⟨by rfl, fun w hS => by go_simp⟩) hHeld ?_
                simp only [Act.put, List.getElem_toArray, List.getElem_cons_zero, List.getElem_cons_succ, List.setIfInBounds_toArray, List.set_cons_zero, List.set_cons_succ]
                refine wpAnyH_take (i := 26) (v := .bool true) rfl (by kernel_rfl) (by kernel_rfl) (by kernel_rfl) (fun _ _ _ h => h) (Or.inl ⟨by rfl, fun w hS => by go_simp⟩) hHeld ?_
                simp only [Act.put, List.getElem_toArray, List.getElem_cons_zero, List.getElem_cons_succ, List.setIfInBounds_toArray, List.set_cons_zero, List.set_cons_succ]
                refine wpAnyH_take (i := 27) (v := .slice ua ul uc) rfl (by kernel_rfl) (by kernel_rfl) (by kernel_rfl) (fun _ _ _ h => h) (Or.inl ⟨by rfl, fun w hS => by go_simp⟩) hHeld ?_
                simp only [Act.put, List.getElem_toArray, List.getElem_cons_zero, List.getElem_cons_succ, List.setIfInBounds_toArray, List.set_cons_zero, List.set_cons_succ]
                refine wpAnyH_take (i := 29) (v := .slice (some ⟨lb, off, none⟩) n cap) rfl (by kernel_rfl) (by kernel_rfl) (by kernel_rfl) (fun _ _ _ h => h) (Or.inl ⟨by rfl, fun w hS => by go_simp⟩) hHeld ?_
                simp only [Act.put, List.getElem_toArray, List.getElem_cons_zero, List.getElem_cons_succ, List.setIfInBounds_toArray, List.set_cons_zero, List.set_cons_succ]
                refine wpAnyH_take (i := 30) (v := .int .i64 (i : Int)) rfl (by kernel_rfl) (by kernel_rfl) (by kernel_rfl) (fun _ _ _ h => h) (Or.inl ⟨by rfl, fun w hS => by go_simp⟩) hHeld ?_
                simp only [Act.put, List.getElem_toArray, List.getElem_cons_zero, List.getElem_cons_succ, List.setIfInBounds_toArray, List.set_cons_zero, List.set_cons_succ]
                refine wpAnyH_take (i := 31) (v := .pointer (some ⟨lb, off + i * 33, none⟩)) rfl (by kernel_rfl) (by kernel_rfl) (by kernel_rfl) (fun _ _ _ h => h) (Or.inl ⟨by rfl, fun w hS => by go_simp⟩) hHeld ?_
                simp only [Act.put, List.getElem_toArray, List.getElem_cons_zero, List.getElem_cons_succ, List.setIfInBounds_toArray, List.set_cons_zero, List.set_cons_succ]
                refine wpAnyH_take (i := 32) (v := .pointer (some ⟨lb, off + i * 33 + 32, none⟩)) rfl (by kernel_rfl) (by kernel_rfl) (by kernel_rfl) (fun _ _ _ h => h) (Or.inl ⟨by rfl, fun w hS => by go_simp⟩) hHeld ?_
                simp only [Act.put, List.getElem_toArray, List.getElem_cons_zero, List.getElem_cons_succ, List.setIfInBounds_toArray, List.set_cons_zero, List.set_cons_succ]
                refine wpAnyH_take (i := 33) (v := .slice pa pl pc) rfl (by kernel_rfl) (by kernel_rfl) (by kernel_rfl) (fun _ _ _ h => h) (Or.inl ⟨by rfl, fun w hS => by (have q1 := rng_val (HRG.out _ hS) HK32.out; go_simp)⟩) hHeld ?_
                simp only [Act.put, List.getElem_toArray, List.getElem_cons_zero, List.getElem_cons_succ, List.setIfInBounds_toArray, List.set_cons_zero, List.set_cons_succ]
                refine wpAnyH_ready (rs := [28]) (by kernel_rfl) (by simp) ?_
                refine AllReadyH.cons rfl (fun KQ hK => ?_) AllReadyH.nil
                go_simp
                refine (HVT.out _ _ _ (KU.out _ hHeld) HLy.out).mono ?_
                rintro e y4 ⟨ta, tl, tc, rfl, ht, a4⟩
                have KT := hidden ht.kp
                clear ht
                refine hK.out _ _ (grow_trans hHeld a4) (fun hHeld => ?_)
                clear hK KQ
                refine wpAnyH_ready (rs := [34]) (by kernel_rfl) (by simp) ?_
                refine AllReadyH.cons rfl (fun KQ hK => ?_) AllReadyH.nil
                go_simp
                refine (HVT.out _ _ _ (HRD.out _ hHeld) HVL.out).mono ?_
                rintro e y5 ⟨ta2, tl2, tc2, rfl, ht2, a5⟩
                replace KT := hidden (KT.out.step a5)
                refine hK.out _ _ (grow_trans hHeld a5) (fun hHeld => ?_)
                clear hK KQ
                refine wpAnyH_take (i := 35) (v := .agg #[.slice ta tl tc, .slice ta2 tl2 tc2]) rfl (by kernel_rfl) (by kernel_rfl) (by kernel_rfl) (fun _ _ _ h => h) (Or.inl ⟨by rfl, fun w hS => exec_bd _ _ 51 _ (by rfl) _ (by rw [List.map_toArray]; exact built_two _ _ _ _ _ _) w⟩) hHeld ?_
                simp only [Act.put, List.getElem_toArray, List.getElem_cons_zero, List.getElem_cons_succ, List.setIfInBounds_toArray, List.set_cons_zero, List.set_cons_succ]
                refine wpAnyH_ready (rs := [36]) (by kernel_rfl) (by simp) ?_
                refine AllReadyH.cons rfl (fun KQ hK => ?_) AllReadyH.nil
                go_simp
                refine (HCl1.out _ _ _ KT.out.now ht2 (KL.out _ hHeld)).mono ?_
                rintro e y6 ⟨rfl, a6⟩
                refine hK.out _ _ (grow_trans hHeld a6) (fun hHeld => ?_)
                clear hK KQ
                refine wpAnyH_take (i := 37) (v := .bool false) rfl (by kernel_rfl) (by kernel_rfl) (by kernel_rfl) (fun _ _ _ h => h) (Or.inl ⟨by rfl, fun w hS => by go_simp⟩) hHeld ?_
                simp only [Act.put, List.getElem_toArray, List.getElem_cons_zero, List.getElem_cons_succ, List.setIfInBounds_toArray, List.set_cons_zero, List.set_cons_succ]
                refine wpAnyH_take (i := 38) (v := .bool false) rfl (by kernel_rfl) (by kernel_rfl) (by kernel_rfl) (fun _ _ _ h => h) (Or.inl ⟨by rfl, fun w hS => by go_simp⟩) hHeld ?_
                simp only [Act.put, List.getElem_toArray, List.getElem_cons_zero, List.getElem_cons_succ, List.setIfInBounds_toArray, List.set_cons_zero, List.set_cons_succ]
                refine wpAnyH_take (i := 39) (v := .bool false) rfl (by kernel_rfl) (by kernel_rfl) (by kernel_rfl) (fun _ _ _ h => h) (Or.inl ⟨by rfl, fun w hS => by go_simp⟩) hHeld ?_
                simp only [Act.put, List.getElem_toArray, List.getElem_cons_zero, List.getElem_cons_succ, List.setIfInBounds_toArray, List.set_cons_zero, List.set_cons_succ]
                refine wpAnyH_done (by kernel_rfl) ?_ _
                go_wp2
                exact ⟨⟨i + 1, true, by omega, rfl, by go_num, HAM.out, grow_trans hb.out hHeld⟩, by simp [intOf]; omega⟩
            · have hps' : psB R key ys X k a b c d = false := by simpa using hps
              rw [hps'] at HPs2
              clear hp2 hps hps' hCl1
              refine wp_region_held_drew (S := fun w' => Below wr.heap.size wr w') (by kernel_rfl) (below_drewN hHeld 1) (fun hHeld => ?_)
              refine wpAnyH_take (i := 0) (v := .agg (B R)) rfl (by kernel_rfl) (by kernel_rfl) (by kernel_rfl) (fun _ _ _ h => h) (yieldsIf_load_mid rfl 25 (.tmp 9) rfl g9 (0) rfl (B R).toList _ (fun w hS => (K9.out _ hS).range) Tryz.underlying25 rfl HLR.out) hHeld ?_
              simp only [Act.put, List.getElem_toArray, List.getElem_cons_zero, List.setIfInBounds_toArray, List.set_cons_zero, List.set_cons_succ]
              refine wpAnyH_take (i := 1) (v := .agg (B key)) rfl (by kernel_rfl) (by kernel_rfl) (by kernel_rfl) (fun _ _ _ h => h) (yieldsIf_load_mid rfl 24 (.tmp 5) rfl g5 (0) rfl (B key).toList _ (fun w hS => (K5.out _ hS).range) Tryz.underlying24 rfl HLk.out) hHeld ?_
              simp only [Act.put, List.getElem_toArray, List.getElem_cons_zero, List.getElem_cons_succ, List.setIfInBounds_toArray, List.set_cons_zero, List.set_cons_succ]
              refine wpAnyH_take (i := 2) (v := .slice (some ⟨lb, off, none⟩) n cap) rfl (by kernel_rfl) (by kernel_rfl) (by kernel_rfl) (fun _ _ _ h => h) (Or.inl ⟨by rfl, fun w hS => by go_simp⟩) hHeld ?_
              simp only [Act.put, List.getElem_toArray, List.getElem_cons_zero, List.getElem_cons_succ, List.setIfInBounds_toArray, List.set_cons_zero, List.set_cons_succ]
              refine wpAnyH_take (i := 3) (v := .int .i64 (i : Int)) rfl (by kernel_rfl) (by kernel_rfl) (by kernel_rfl) (fun _ _ _ h => h) (Or.inl ⟨by rfl, fun w hS => by go_simp⟩) hHeld ?_
              simp only [Act.put, List.getElem_toArray, List.getElem_cons_zero, List.getElem_cons_succ, List.setIfInBounds_toArray, List.set_cons_zero, List.set_cons_succ]
              refine wpAnyH_take (i := 4) (v := .pointer (some ⟨lb, off + i * 33, none⟩)) rfl (by kernel_rfl) (by kernel_rfl) (by kernel_rfl) (fun _ _ _ h => h) (Or.inl ⟨by rfl, fun w hS => by go_simp⟩) hHeld ?_
              simp only [Act.put, List.getElem_toArray, List.getElem_cons_zero, List.getElem_cons_succ, List.setIfInBounds_toArray, List.set_cons_zero, List.set_cons_succ]
              refine wpAnyH_take (i := 5) (v := .pointer (some ⟨lb, off + i * 33 + 32, none⟩)) rfl (by kernel_rfl) (by kernel_rfl) (by kernel_rfl) (fun _ _ _ h => h) (Or.inl ⟨by rfl, fun w hS => by go_simp⟩) hHeld ?_
              simp only [Act.put, List.getElem_toArray, List.getElem_cons_zero, List.getElem_cons_succ, List.setIfInBounds_toArray, List.set_cons_zero, List.set_cons_succ]
              refine wpAnyH_take (i := 6) (v := .slice pa pl pc) rfl (by kernel_rfl) (by kernel_rfl) (by kernel_rfl) (fun _ _ _ h => h) (Or.inl ⟨by rfl, fun w hS => by (have q1 := rng_val (HRG.out _ hS) HK32.out; go_simp)⟩) hHeld ?_
              simp only [Act.put, List.getElem_toArray, List.getElem_cons_zero, List.getElem_cons_succ, List.setIfInBounds_toArray, List.set_cons_zero, List.set_cons_succ]
              refine wpAnyH_take (i := 7) (v := .slice xa L xc) rfl (by kernel_rfl) (by kernel_rfl) (by kernel_rfl) (fun _ _ _ h => h) (Or.inl ⟨by rfl, fun w hS => by go_simp⟩) hHeld ?_
              simp only [Act.put, List.getElem_toArray, List.getElem_cons_zero, List.getElem_cons_succ, List.setIfInBounds_toArray, List.set_cons_zero, List.set_cons_succ]
              refine wpAnyH_ready (rs := [8]) (by kernel_rfl) (by simp) ?_
              refine AllReadyH.cons rfl (fun KQ hK => ?_) AllReadyH.nil
              go_simp
              refine (HPs1.out _ _ _ (HRD.out _ hHeld) (KX.out _ hHeld) (KL.out _ hHeld)).mono ?_
              rintro e y1 ⟨rfl, a1⟩
              refine hK.out _ _ (grow_trans hHeld a1) (fun hHeld => ?_)
              clear hK KQ
              refine wpAnyH_take (i := 9) (v := .bool false) rfl (by kernel_rfl) (by kernel_rfl) (by kernel_rfl) (fun _ _ _ h => h) (Or.inl ⟨by rfl, fun w hS => by go_simp⟩) hHeld ?_
              simp only [Act.put, List.getElem_toArray, List.getElem_cons_zero, List.getElem_cons_succ, List.setIfInBounds_toArray, List.set_cons_zero, List.set_cons_succ]
              refine wpAnyH_take (i := 10) (v := .bool false) rfl (by kernel_rfl) (by kernel_rfl) (by kernel_rfl) (fun _ _ _ h => h) (Or.inl ⟨by rfl, fun w hS => by go_simp⟩) hHeld ?_
              simp only [Act.put, List.getElem_toArray, List.getElem_cons_zero, List.getElem_cons_succ, List.setIfInBounds_toArray, List.set_cons_zero, List.set_cons_succ]
              refine wpAnyH_take (i := 11) (v := .agg (B R)) rfl (by kernel_rfl) (by kernel_rfl) (by kernel_rfl) (fun _ _ _ h => h) (yieldsIf_load_mid rfl 25 (.tmp 9) rfl g9 (0) rfl (B R).toList _ (fun w hS => (K9.out _ hS).range) Tryz.underlying25 rfl HLR.out) hHeld ?_
              simp only [Act.put, List.getElem_toArray, List.getElem_cons_zero, List.getElem_cons_succ, List.setIfInBounds_toArray, List.set_cons_zero, List.set_cons_succ]
              refine wpAnyH_take (i := 12) (v := .agg (B key)) rfl (by kernel_rfl) (by kernel_rfl) (by kernel_rfl) (fun _ _ _ h => h) (yieldsIf_load_mid rfl 24 (.tmp 5) rfl g5 (0) rfl (B key).toList _ (fun w hS => (K5.out _ hS).range) Tryz.underlying24 rfl HLk.out) hHeld ?_
              simp only [Act.put, List.getElem_toArray, List.getElem_cons_zero, List.getElem_cons_succ, List.setIfInBounds_toArray, List.set_cons_zero, List.set_cons_succ]
              refine wpAnyH_take (i := 13) (v := .slice ua ul uc) rfl (by kernel_rfl) (by kernel_rfl) (by kernel_rfl) (fun _ _ _ h => h) (Or.inl ⟨by rfl, fun w hS => by go_simp⟩) hHeld ?_
              simp only [Act.put, List.getElem_toArray, List.getElem_cons_zero, List.getElem_cons_succ, List.setIfInBounds_toArray, List.set_cons_zero, List.set_cons_succ]
              refine wpAnyH_take (i := 14) (v := .slice xa L xc) rfl (by kernel_rfl) (by kernel_rfl) (by kernel_rfl) (fun _ _ _ h => h) (Or.inl ⟨by rfl, fun w hS => by go_simp⟩) hHeld ?_
              simp only [Act.put, List.getElem_toArray, List.getElem_cons_zero, List.getElem_cons_succ, List.setIfInBounds_toArray, List.set_cons_zero, List.set_cons_succ]
              refine wpAnyH_ready (rs := [15]) (by kernel_rfl) (by simp) ?_
              refine AllReadyH.cons rfl (fun KQ hK => ?_) AllReadyH.nil
              go_simp
              refine (HPs2.out _ _ _ (KU.out _ hHeld) (KX.out _ hHeld) (KL.out _ hHeld)).mono ?_
              rintro e y2 ⟨rfl, a2⟩
              refine hK.out _ _ (grow_trans hHeld a2) (fun hHeld => ?_)
              clear hK KQ
              refine wpAnyH_take (i := 16) (v := .bool false) rfl (by kernel_rfl) (by kernel_rfl) (by kernel_rfl) (fun _ _ _ h => h) (Or.inl ⟨by rfl, fun w hS => by go_simp⟩) hHeld ?_
              simp only [Act.put, List.getElem_toArray, List.getElem_cons_zero, List.getElem_cons_succ, List.setIfInBounds_toArray, List.set_cons_zero, List.set_cons_succ]
              refine wpAnyH_take (i := 17) (v := undef) rfl (by kernel_rfl) (by kernel_rfl) (by kernel_rfl) (fun _ _ _ h => h) (Or.inr ⟨by rfl, rfl⟩) hHeld ?_
              simp only [Act.put, List.getElem_toArray, List.getElem_cons_zero, List.getElem_cons_succ, List.setIfInBounds_toArray, List.set_cons_zero, List.set_cons_succ]
              refine wpAnyH_take (i := 18) (v := undef) rfl (by kernel_rfl) (by kernel_rfl) (by kernel_rfl) (fun _ _ _ h => h) (Or.inr ⟨by rfl, rfl⟩) hHeld ?_
              simp only [Act.put, List.getElem_toArray, List.getElem_cons_zero, List.getElem_cons_succ, List.setIfInBounds_toArray, List.set_cons_zero, List.set_cons_succ]
              refine wpAnyH_take (i := 19) (v := undef) rfl (by kernel_rfl) (by kernel_rfl) (by kernel_rfl) (fun _ _ _ h => h) (Or.inr ⟨by rfl, rfl⟩) hHeld ?_
              simp only [Act.put, List.getElem_toArray, List.getElem_cons_zero, List.getElem_cons_succ, List.setIfInBounds_toArray, List.set_cons_zero, List.set_cons_succ]
              refine wpAnyH_take (i := 20) (v := undef) rfl (by kernel_rfl) (by kernel_rfl) (by kernel_rfl) (fun _ _ _ h => h) (Or.inr ⟨by rfl, rfl⟩) hHeld ?_
              simp only [Act.put, List.getElem_toArray, List.getElem_cons_zero, List.getElem_cons_succ, List.setIfInBounds_toArray, List.set_cons_zero, List.set_cons_succ]
              refine wpAnyH_take (i := 21) (v := undef) rfl (by kernel_rfl) (by kernel_rfl) (by kernel_rfl) (fun _ _ _ h => h) (Or.inr ⟨by rfl, rfl⟩) hHeld ?_
              simp only [Act.put, List.getElem_toArray, List.getElem_cons_zero, List.getElem_cons_succ, List.setIfInBounds_toArray, List.set_cons_zero, List.set_cons_succ]
              refine wpAnyH_take (i := 22) (v := undef) rfl (by kernel_rfl) (by kernel_rfl) (by kernel_rfl) (fun _ _ _ h => h) (Or.inr ⟨by rfl, rfl⟩) hHeld ?_
              simp only [Act.put, List.getElem_toArray, List.getElem_cons_zero, List.getElem_cons_succ, List.setIfInBounds_toArray, List.set_cons_zero, List.set_cons_succ]
              refine wpAnyH_take (i := 23) (v := undef) rfl (by kernel_rfl) (by kernel_rfl) (by kernel_rfl) (fun _ _ _ h => h) (Or.inr ⟨by rfl, rfl⟩) hHeld ?_
              simp only [Act.put, List.getElem_toArray, List.getElem_cons_zero, List.getElem_cons_succ, List.setIfInBounds_toArray, List.set_cons_zero, List.set_cons_succ]
              refine wpAnyH_take (i := 24) (v := undef) rfl (by kernel_rfl) (by kernel_rfl) (by kernel_rfl) (fun _ _ _ h => h) (Or.inr ⟨by rfl, rfl⟩) hHeld ?_
              simp only [Act.put, List.getElem_toArray, List.getElem_cons_zero, List.getElem_cons_succ, List.setIfInBounds_toArray, List.set_cons_zero, List.set_cons_succ]
              refine wpAnyH_take (i := 25) (v := .bool false) rfl (by kernel_rfl) (by kernel_rfl) (by kernel_rfl) (fun _ _ _ h => h) (Or.inl ⟨by rfl, fun w hS => by go_simp⟩) hHeld ?_
              simp only [Act.put, List.getElem_toArray, List.getElem_cons_zero, List.getElem_cons_succ, List.setIfInBounds_toArray, List.set_cons_zero, List.set_cons_succ]
              refine wpAnyH_take (i := 26) (v := .bool false) rfl (by kernel_rfl) (by kernel_rfl) (by kernel_rfl) (fun _ _ _ h => h) (Or.inl ⟨by rfl, fun w hS => by go_simp⟩) hHeld ?_
              simp only [Act.put, List.getElem_toArray, List.getElem_cons_zero, List.getElem_cons_succ, List.setIfInBounds_toArray, List.set_cons_zero, List.set_cons_succ]
              refine wpAnyH_take (i := 27) (v := undef) rfl (by kernel_rfl) (by kernel_rfl) (by kernel_rfl) (fun _ _ _ h => h) (Or.inr ⟨by rfl, rfl⟩) hHeld ?_
              simp only [Act.put, List.getElem_toArray, List.getElem_cons_zero, List.getElem_cons_succ, List.setIfInBounds_toArray, List.set_cons_zero, List.set_cons_succ]
              refine wpAnyH_take (i := 28) (v := undef) rfl (by kernel_rfl) (by kernel_rfl) (by kernel_rfl) (fun _ _ _ h => h) (Or.inr ⟨by rfl, rfl⟩) hHeld ?_
              simp only [Act.put, List.getElem_toArray, List.getElem_cons_zero, List.getElem_cons_succ, List.setIfInBounds_toArray, List.set_cons_zero, List.set_cons_succ]
              refine wpAnyH_take (i := 29) (v := undef) rfl (by kernel_rfl) (by kernel_rfl) (by kernel_rfl) (fun _ _ _ h => h) (Or.inr ⟨by rfl, rfl⟩) hHeld ?_
              simp only [Act.put, List.getElem_toArray, List.getElem_cons_zero, List.getElem_cons_succ, List.setIfInBounds_toArray, List.set_cons_zero, List.set_cons_succ]
              refine wpAnyH_take (i := 30) (v := undef) rfl (by kernel_rfl) (by kernel_rfl) (by kernel_rfl) (fun _ _ _ h => h) (Or.inr ⟨by rfl, rfl⟩) hHeld ?_
              simp only [Act.put, List.getElem_toArray, List.getElem_cons_zero, List.getElem_cons_succ, List.setIfInBounds_toArray, List.set_cons_zero, List.set_cons_succ]
              refine wpAnyH_take (i := 31) (v := undef) rfl (by kernel_rfl) (by kernel_rfl) (by kernel_rfl) (fun _ _ _ h => h) (Or.inr ⟨by rfl, rfl⟩) hHeld ?_
              simp only [Act.put, List.getElem_toArray, List.getElem_cons_zero, List.getElem_cons_succ, List.setIfInBounds_toArray, List.set_cons_zero, List.set_cons_succ]
              refine wpAnyH_take (i := 32) (v := undef) rfl (by kernel_rfl) (by kernel_rfl) (by kernel_rfl) (fun _ _ _ h => h) (Or.inr ⟨by rfl, rfl⟩) hHeld ?_
              simp only [Act.put, List.getElem_toArray, List.getElem_cons_zero, List.getElem_cons_succ, List.setIfInBounds_toArray, List.set_cons_zero, List.set_cons_succ]
              refine wpAnyH_take (i := 33) (v := undef) rfl (by kernel_rfl) (by kernel_rfl) (by kernel_rfl) (fun _ _ _ h => h) (Or.inr ⟨by rfl, rfl⟩) hHeld ?_
              simp only [Act.put, List.getElem_toArray, List.getElem_cons_zero, List.getElem_cons_succ, List.setIfInBounds_toArray, List.set_cons_zero, List.set_cons_succ]
              refine wpAnyH_take (i := 34) (v := undef) rfl (by kernel_rfl) (by kernel_rfl) (by kernel_rfl) (fun _ _ _ h => h) (Or.inr ⟨by rfl, rfl⟩) hHeld ?_
              simp only [Act.put, List.getElem_toArray, List.getElem_cons_zero, List.getElem_cons_succ, List.setIfInBounds_toArray, List.set_cons_zero, List.set_cons_succ]
              refine wpAnyH_take (i := 35) (v := undef) rfl (by kernel_rfl) (by kernel_rfl) (by kernel_rfl) (fun _ _ _ h => h) (Or.inr ⟨by rfl, rfl⟩) hHeld ?_
              simp only [Act.put, List.getElem_toArray, List.getElem_cons_zero, List.getElem_cons_succ, List.setIfInBounds_toArray, List.set_cons_zero, List.set_cons_succ]
              refine wpAnyH_take (i := 36) (v := undef) rfl (by kernel_rfl) (by kernel_rfl) (by kernel_rfl) (fun _ _ _ h => h) (Or.inr ⟨by rfl, rfl⟩) hHeld ?_
              simp only [Act.put, List.getElem_toArray, List.getElem_cons_zero, List.getElem_cons_succ, List.setIfInBounds_toArray, List.set_cons_zero, List.set_cons_succ]
              refine wpAnyH_take (i := 37) (v := undef) rfl (by kernel_rfl) (by kernel_rfl) (by kernel_rfl) (fun _ _ _ h => h) (Or.inr ⟨by rfl, rfl⟩) hHeld ?_
              simp only [Act.put, List.getElem_toArray, List.getElem_cons_zero, List.getElem_cons_succ, List.setIfInBounds_toArray, List.set_cons_zero, List.set_cons_succ]
              refine wpAnyH_take (i := 38) (v := .bool false) rfl (by kernel_rfl) (by kernel_rfl) (by kernel_rfl) (fun _ _ _ h => h) (Or.inl ⟨by rfl, fun w hS => by go_simp⟩) hHeld ?_
              simp only [Act.put, List.getElem_toArray, List.getElem_cons_zero, List.getElem_cons_succ, List.setIfInBounds_toArray, List.set_cons_zero, List.set_cons_succ]
              refine wpAnyH_take (i := 39) (v := .bool false) rfl (by kernel_rfl) (by kernel_rfl) (by kernel_rfl) (fun _ _ _ h => h) (Or.inl ⟨by rfl, fun w hS => by go_simp⟩) hHeld ?_
              simp only [Act.put, List.getElem_toArray, List.getElem_cons_zero, List.getElem_cons_succ, List.setIfInBounds_toArray, List.set_cons_zero, List.set_cons_succ]
              refine wpAnyH_done (by kernel_rfl) ?_ _
              go_wp2
              exact ⟨⟨i + 1, true, by omega, rfl, by go_num, HAM.out, grow_trans hb.out hHeld⟩, by simp [intOf]; omega⟩
          · have hdk : decide (Ki = key) = false := decide_eq_false hkk
            replace HAM := hidden (HAM.out false hdk.symm)
            rw [hdk] at hqi
            rw [Bool.or_false] at HAM
            clear hPi hkk hdk hCl1
            go_wp2
            refine wp_region_held_drew (S := fun w' => Below wr.heap.size wr w') (by kernel_rfl) (below_drewN (Below.refl _ _) 1) (fun hHeld => ?_)
            refine wpAnyH_take (i := 0) (v := .slice (some ⟨lb, off, none⟩) n cap) rfl (by kernel_rfl) (by kernel_rfl) (by kernel_rfl) (fun _ _ _ h => h) (Or.inl ⟨by rfl, fun w hS => by go_simp⟩) hHeld ?_
            simp only [Act.put, List.getElem_toArray, List.getElem_cons_zero, List.setIfInBounds_toArray, List.set_cons_zero, List.set_cons_succ]
            refine wpAnyH_take (i := 1) (v := .int .i64 (i : Int)) rfl (by kernel_rfl) (by kernel_rfl) (by kernel_rfl) (fun _ _ _ h => h) (Or.inl ⟨by rfl, fun w hS => by go_simp⟩) hHeld ?_
            simp only [Act.put, List.getElem_toArray, List.getElem_cons_zero, List.getElem_cons_succ, List.setIfInBounds_toArray, List.set_cons_zero, List.set_cons_succ]
            refine wpAnyH_take (i := 2) (v := .pointer (some ⟨lb, off + i * 33, none⟩)) rfl (by kernel_rfl) (by kernel_rfl) (by kernel_rfl) (fun _ _ _ h => h) (Or.inl ⟨by rfl, fun w hS => by go_simp⟩) hHeld ?_
            simp only [Act.put, List.getElem_toArray, List.getElem_cons_zero, List.getElem_cons_succ, List.setIfInBounds_toArray, List.set_cons_zero, List.set_cons_succ]
            refine wpAnyH_take (i := 3) (v := .pointer (some ⟨lb, off + i * 33, none⟩)) rfl (by kernel_rfl) (by kernel_rfl) (by kernel_rfl) (fun _ _ _ h => h) (Or.inl ⟨by rfl, fun w hS => by go_simp⟩) hHeld ?_
            simp only [Act.put, List.getElem_toArray, List.getElem_cons_zero, List.getElem_cons_succ, List.setIfInBounds_toArray, List.set_cons_zero, List.set_cons_succ]
            refine wpAnyH_take (i := 4) (v := .agg (B Ki)) rfl (by kernel_rfl) (by kernel_rfl) (by kernel_rfl) (fun _ _ _ h => h) (yieldsIf_load_mid rfl 24 (.tmp 72) rfl lb (off + i * 33) rfl (B Ki).toList _ (fun w hS => rng_key (HRG.out _ hS)) Tryz.underlying24 rfl HKL.out) hHeld ?_
            simp only [Act.put, List.getElem_toArray, List.getElem_cons_zero, List.getElem_cons_succ, List.setIfInBounds_toArray, List.set_cons_zero, List.set_cons_succ]
            refine wpAnyH_take (i := 5) (v := .agg (B key)) rfl (by kernel_rfl) (by kernel_rfl) (by kernel_rfl) (fun _ _ _ h => h) (yieldsIf_load_mid rfl 24 (.tmp 5) rfl g5 (0) rfl (B key).toList _ (fun w hS => (K5.out _ hS).range) Tryz.underlying24 rfl HLk.out) hHeld ?_
            simp only [Act.put, List.getElem_toArray, List.getElem_cons_zero, List.getElem_cons_succ, List.setIfInBounds_toArray, List.set_cons_zero, List.set_cons_succ]
            refine wpAnyH_take (i := 6) (v := .bool false) rfl (by kernel_rfl) (by kernel_rfl) (by kernel_rfl) (fun _ _ _ h => h) (Or.inl ⟨by rfl, fun w hS => by go_simp⟩) hHeld ?_
            simp only [Act.put, List.getElem_toArray, List.getElem_cons_zero, List.getElem_cons_succ, List.setIfInBounds_toArray, List.set_cons_zero, List.set_cons_succ]
            refine wpAnyH_done (by kernel_rfl) ?_ _
            go_wp2
            exact ⟨⟨i + 1, th, by omega, rfl, by go_num, HAM.out, grow_trans hb.out hHeld⟩, by simp [intOf]; omega⟩
        · have z1 : ¬ (i : Int) < (n : Int) := by omega
          obtain rfl : i = n := by omega
          have hthO : th = O := by rw [hth.out, HAl.out]
          subst hthO
          have hno : (th == !th) = false := by cases th <;> rfl
          by_cases hor : other = R
          · rw [decide_eq_true hor] at hqO
            clear HEO hor
            go_wp2_with (first
              | ((with_reducible refine at_ldd 117 9 ?_); refine wpList_ld _ rfl _ _ rfl g9 _ rfl K9.out.now _ _ Tryz.underlying25 HSR.out.1 ?_)
              | ((with_reducible refine at_ldd 118 5 ?_); refine wpList_ld _ rfl _ _ rfl g5 _ rfl K5.out.now _ _ Tryz.underlying24 HSk.out ?_)
              | ((with_reducible refine at_ldd 123 6 ?_); refine wpList_ld _ rfl _ _ rfl g6 _ rfl K6.out.now _ _ Tryz.underlying25 HSO.out.1 ?_)
              | ((with_reducible refine at_ldd 124 5 ?_); refine wpList_ld _ rfl _ _ rfl g5 _ rfl K5.out.now _ _ Tryz.underlying24 HSk.out ?_)
              | ((with_reducible refine at_ald 19 ?_); refine wpList_al _ rfl _ rfl _ zero_said ?_; intro x63 g19 hg19 hl63 bq63 q63; clear hl63)
              | ((with_reducible refine at_st 19 ?_); refine wpList_sto _ rfl _ _ _ rfl g19 _ (SD) rfl rfl bq63 HSD.out.1 HSD.out.2 HOn.out ?_; intro x64 by64 r64; have q64 := below_row q63 r64 hg19; replace KU := hidden (KU.out.step q64); replace KW := hidden (KW.out.step q64); replace KL := hidden (KL.out.step q64); replace KP := hidden (KP.out.step q64); replace K5 := hidden (K5.out.step q64); replace K6 := hidden (K6.out.step q64); replace K9 := hidden (K9.out.step q64); replace KQ := hidden (KQ.out.step q64); replace K11 := hidden (K11.out.step q64); replace KX := hidden (KX.out.step q64); have K19 := hidden by64.kp; clear q64 q63 r64 by64 bq63 hg19)
              | ((with_reducible refine at_ldd 129 6 ?_); refine wpList_ld _ rfl _ _ rfl g6 _ rfl K6.out.now _ _ Tryz.underlying25 HSO.out.1 ?_)
              | ((with_reducible refine at_ldd 130 9 ?_); refine wpList_ld _ rfl _ _ rfl g9 _ rfl K9.out.now _ _ Tryz.underlying25 HSR.out.1 ?_)
              | (go_at_call 6; refine (HRe.out _ _ KX.out.now KL.out.now).mono ?_; rintro e x62 ⟨rfl, q62⟩; replace KU := hidden (KU.out.step q62); replace KW := hidden (KW.out.step q62); replace KL := hidden (KL.out.step q62); replace KP := hidden (KP.out.step q62); replace K5 := hidden (K5.out.step q62); replace K6 := hidden (K6.out.step q62); replace K9 := hidden (K9.out.step q62); replace KQ := hidden (KQ.out.step q62); replace K11 := hidden (K11.out.step q62); replace KX := hidden (KX.out.step q62); have mk_fverifyRead_1 : Hid True := trivial; clear q62)
              | (go_at_call 12; refine (HAb.out _ _ KX.out.now KL.out.now).mono ?_; rintro e x61 ⟨rfl, q61⟩; replace KU := hidden (KU.out.step q61); replace KW := hidden (KW.out.step q61); replace KL := hidden (KL.out.step q61); replace KP := hidden (KP.out.step q61); replace K5 := hidden (K5.out.step q61); replace K6 := hidden (K6.out.step q61); replace K9 := hidden (K9.out.step q61); replace KQ := hidden (KQ.out.step q61); replace K11 := hidden (K11.out.step q61); replace KX := hidden (KX.out.step q61); have mk_fverifyAbsent_1 : Hid True := trivial; clear q61))
            all_goals go_ret
            all_goals exact ⟨rfl, KW.out.now⟩
          · have zE : (if R = other then (0 : Int) else 11) = 11 := HEO.out hor
            rw [zE] at HRe
            rw [decide_eq_false hor] at hqO
            clear HEO hor zE
            go_wp2_with (first
              | ((with_reducible refine at_ldd 117 9 ?_); refine wpList_ld _ rfl _ _ rfl g9 _ rfl K9.out.now _ _ Tryz.underlying25 HSR.out.1 ?_)
              | ((with_reducible refine at_ldd 118 5 ?_); refine wpList_ld _ rfl _ _ rfl g5 _ rfl K5.out.now _ _ Tryz.underlying24 HSk.out ?_)
              | ((with_reducible refine at_ldd 123 6 ?_); refine wpList_ld _ rfl _ _ rfl g6 _ rfl K6.out.now _ _ Tryz.underlying25 HSO.out.1 ?_)
              | ((with_reducible refine at_ldd 124 5 ?_); refine wpList_ld _ rfl _ _ rfl g5 _ rfl K5.out.now _ _ Tryz.underlying24 HSk.out ?_)
              | ((with_reducible refine at_ald 19 ?_); refine wpList_al _ rfl _ rfl _ zero_said ?_; intro x63 g19 hg19 hl63 bq63 q63; clear hl63)
              | ((with_reducible refine at_st 19 ?_); refine wpList_sto _ rfl _ _ _ rfl g19 _ (SD) rfl rfl bq63 HSD.out.1 HSD.out.2 HOn.out ?_; intro x64 by64 r64; have q64 := below_row q63 r64 hg19; replace KU := hidden (KU.out.step q64); replace KW := hidden (KW.out.step q64); replace KL := hidden (KL.out.step q64); replace KP := hidden (KP.out.step q64); replace K5 := hidden (K5.out.step q64); replace K6 := hidden (K6.out.step q64); replace K9 := hidden (K9.out.step q64); replace KQ := hidden (KQ.out.step q64); replace K11 := hidden (K11.out.step q64); replace KX := hidden (KX.out.step q64); have K19 := hidden by64.kp; clear q64 q63 r64 by64 bq63 hg19)
              | ((with_reducible refine at_ldd 129 6 ?_); refine wpList_ld _ rfl _ _ rfl g6 _ rfl K6.out.now _ _ Tryz.underlying25 HSO.out.1 ?_)
              | ((with_reducible refine at_ldd 130 9 ?_); refine wpList_ld _ rfl _ _ rfl g9 _ rfl K9.out.now _ _ Tryz.underlying25 HSR.out.1 ?_)
              | (go_at_call 6; refine (HRe.out _ _ KX.out.now KL.out.now).mono ?_; rintro e x62 ⟨rfl, q62⟩; replace KU := hidden (KU.out.step q62); replace KW := hidden (KW.out.step q62); replace KL := hidden (KL.out.step q62); replace KP := hidden (KP.out.step q62); replace K5 := hidden (K5.out.step q62); replace K6 := hidden (K6.out.step q62); replace K9 := hidden (K9.out.step q62); replace KQ := hidden (KQ.out.step q62); replace K11 := hidden (K11.out.step q62); replace KX := hidden (KX.out.step q62); have mk_fverifyRead_1 : Hid True := trivial; clear q62)
              | (go_at_call 12; refine (HAb.out _ _ KX.out.now KL.out.now).mono ?_; rintro e x61 ⟨rfl, q61⟩; replace KU := hidden (KU.out.step q61); replace KW := hidden (KW.out.step q61); replace KL := hidden (KL.out.step q61); replace KP := hidden (KP.out.step q61); replace K5 := hidden (K5.out.step q61); replace K6 := hidden (K6.out.step q61); replace K9 := hidden (K9.out.step q61); replace KQ := hidden (KQ.out.step q61); replace K11 := hidden (K11.out.step q61); replace KX := hidden (KX.out.step q61); have mk_fverifyAbsent_1 : Hid True := trivial; clear q61))
            all_goals go_ret
            all_goals exact ⟨rfl, KW.out.now⟩
  · obtain ⟨q1, q2, q3, q4⟩ := read_nil other key
    have HRn : Hid (∀ w', Laid w' → Calls Tryz.prog 6 #[.agg (B other), .agg (B key), .slice none 0 0] w' fun e w'' => e = .returned (.tuple #[.agg (sdP false z32).toArray, .int .i64 10]) ∧ Below w'.heap.size w' w'') := fun w' h => by
      have := vread_any other key (.slice none 0 0) [] 0 z32 z32 z32 z32 w' hoth hkey ⟨none, 0, rfl, by simp, fun _ => by simp, Bytes.nil, fun h => by simp at h⟩ (by simp) h q4 z_nd
      rwa [q1, q2, q3] at this
    have HS0 := hidden (said_sz false z32 rfl)
    have HO0 := hidden (said_one false z32)
    have HB0 : Hid (Tryz.prog.built 39 [] = some (sdP false z32).toArray) := built_said0
    have hqS : ∀ w, (Op.equalIn 10000 39 (.agg (sdP false z32).toArray) (.agg (sdP false z32).toArray)).run Tryz.prog w = .ok true w := fun w => by have := said_eq (t := false) (u := false) (V := z32) (U := z32) rfl rfl w; simpa using this
    have zE : (errB fs != 0) = true := by simpa using hE
    obtain ⟨sl, hsl⟩ : ∃ sl, sl = (wyH fs key).length := ⟨_, rfl⟩
    rw [← hsl] at HWy
    obtain ⟨hz40, hfcase⟩ : (40 < m → n = 40) ∧ (¬ 40 < m → n = m) := by
      constructor
      · intro q; rw [hnn, hfs, if_pos (by omega), List.length_take]; omega
      · intro q; rw [hnn, hfs, if_neg (by omega), hmm]
    rw [← hmm]
    rw [← hnn] at KP HRo HWy
    rw [← hmm] at hcap hsm
    obtain ⟨ua, uc, rfl, _⟩ := hu
    clear hsl hE hly hnn hks hkey hoth hL hup hus hrl hNl hRoot hfs hfl hpf hpr0 hn q1 q2 q3 q4 hmm
    generalize wyN fs key = N at *
    generalize wyH fs key = HW at *
    generalize rtH fs = R at *
    generalize errB fs = E at *
    by_cases h40 : 40 < m
    · obtain rfl : n = 40 := hz40 h40
      have z40 : (40 : Int) < (m : Int) := by omega
      have kd0 : (0 : Int) ≤ (40 : Int) := by omega
      have kd1 : ¬ (cap : Int) < (40 : Int) := by omega
      have kd2 : (40 : Int) ≤ (cap : Int) := by omega
      obtain ⟨lb, off, hva, _⟩ := hsm (by omega)
      subst hva
      clear hz40 hfcase h40 hsm hcap
      go_enter Tryz.func3, Tryz.ntmps3
      go_wp2_with (first
        | ((with_reducible refine at_bxd 5 ?_); refine wpList_bx _ rfl _ _ rfl _ rfl ?_; intro x1 g5 hg1 hl1 bq1 q1; replace KU := hidden (KU.out.step q1); replace KW := hidden (KW.out.step q1); replace KL := hidden (KL.out.step q1); replace KP := hidden (KP.out.step q1); have K5 := hidden bq1.kp; clear hg1 hl1 bq1 q1)
        | ((with_reducible refine at_bxd 6 ?_); refine wpList_bx _ rfl _ _ rfl _ rfl ?_; intro x2 g6 hg2 hl2 bq2 q2; replace KU := hidden (KU.out.step q2); replace KW := hidden (KW.out.step q2); replace KL := hidden (KL.out.step q2); replace KP := hidden (KP.out.step q2); replace K5 := hidden (K5.out.step q2); have K6 := hidden bq2.kp; clear hg2 hl2 bq2 q2)
        | ((with_reducible refine at_ald 9 ?_); refine wpList_al _ rfl _ rfl _ zero_hash ?_; intro x4 g9 hg9 hl4 bq4 q4; clear hl4)
        | ((with_reducible refine at_st 9 ?_); refine wpList_sto _ rfl _ _ _ rfl g9 _ ((B R)) rfl rfl bq4 HSR.out.1 HSR.out.2 (B_one _) ?_; intro x5 by5 r5; have q5 := below_row q4 r5 hg9; replace KU := hidden (KU.out.step q5); replace KW := hidden (KW.out.step q5); replace KL := hidden (KL.out.step q5); replace KP := hidden (KP.out.step q5); replace K5 := hidden (K5.out.step q5); replace K6 := hidden (K6.out.step q5); have K9 := hidden by5.kp; clear q5 q4 r5 by5 bq4 hg9)
        | ((with_reducible refine at_ldd 33 5 ?_); refine wpList_ld _ rfl _ _ rfl g5 _ rfl K5.out.now _ _ Tryz.underlying24 HSk.out ?_)
        | ((with_reducible refine at_ald 11 ?_); refine wpList_al _ rfl _ rfl _ zero_proof ?_; intro x7 g11 hg11 hl7 bq7 q7; clear hl7)
        | ((with_reducible refine at_st 11 ?_); refine wpList_sto _ rfl _ _ _ rfl g11 _ ((encR (.slice sa sl sc) N).toArray) rfl rfl bq7 (HSP.out _).1 (HSP.out _).2 (encR_one _ _ _ _) ?_; intro x8 by8 r8; have q8 := below_row q7 r8 hg11; replace KU := hidden (KU.out.step q8); replace KW := hidden (KW.out.step q8); replace KL := hidden (KL.out.step q8); replace KP := hidden (KP.out.step q8); replace K5 := hidden (K5.out.step q8); replace K6 := hidden (K6.out.step q8); replace K9 := hidden (K9.out.step q8); replace KQ := hidden (KQ.out.step q8); have K11 := hidden by8.kp; clear q8 q7 r8 by8 bq7 hg11)
        | ((with_reducible refine at_ldd 44 6 ?_); refine wpList_ld _ rfl _ _ rfl g6 _ rfl K6.out.now _ _ Tryz.underlying25 HSO.out.1 ?_)
        | ((with_reducible refine at_ldd 45 5 ?_); refine wpList_ld _ rfl _ _ rfl g5 _ rfl K5.out.now _ _ Tryz.underlying24 HSk.out ?_)
        | ((with_reducible refine at_ald 13 ?_); refine wpList_al _ rfl _ rfl _ zero_said ?_; intro x10 g13 hg13 hl10 bq10 q10; clear hl10)
        | ((with_reducible refine at_st 13 ?_); refine wpList_sto _ rfl _ _ _ rfl g13 _ ((sdP false z32).toArray) rfl rfl bq10 HS0.out.1 rfl HO0.out ?_; intro x11 by11 r11; have q11 := below_row q10 r11 hg13; replace KU := hidden (KU.out.step q11); replace KW := hidden (KW.out.step q11); replace KL := hidden (KL.out.step q11); replace KP := hidden (KP.out.step q11); replace K5 := hidden (K5.out.step q11); replace K6 := hidden (K6.out.step q11); replace K9 := hidden (K9.out.step q11); replace KQ := hidden (KQ.out.step q11); replace K11 := hidden (K11.out.step q11); have K13 := hidden by11.kp; clear q11 q10 r11 by11 bq10 hg13)
        | ((with_reducible refine at_ldd 52 13 ?_); refine wpList_ldsg _ rfl _ _ rfl g13 _ _ rfl K13.out.now HUS.out HS0.out.1 ?_)
        | ((with_reducible refine at_bdd 53 ?_); refine wpList_bldg _ rfl _ _ rfl _ (by rw [List.map_toArray]; exact HB0.out) ?_)
        | (go_at_call 6; refine (HRn.out _ KL.out.now).mono ?_; rintro e x9 ⟨rfl, q9⟩; replace KU := hidden (KU.out.step q9); replace KW := hidden (KW.out.step q9); replace KL := hidden (KL.out.step q9); replace KP := hidden (KP.out.step q9); replace K5 := hidden (K5.out.step q9); replace K6 := hidden (K6.out.step q9); replace K9 := hidden (K9.out.step q9); replace KQ := hidden (KQ.out.step q9); replace K11 := hidden (K11.out.step q9); have mk_fverifyRead_1 : Hid True := trivial; clear q9)
        | (go_at_call 5; refine (HWy.out _ KP.out.now KL.out.now).mono ?_; rintro e x6 ⟨sa, sc, rfl, hq, q6⟩; replace KU := hidden (KU.out.step q6); replace KW := hidden (KW.out.step q6); replace KL := hidden (KL.out.step q6); replace KP := hidden (KP.out.step q6); replace K5 := hidden (K5.out.step q6); replace K6 := hidden (K6.out.step q6); replace K9 := hidden (K9.out.step q6); have KQ := hidden hq.kp; clear hq; have mk_fnodeWay_1 : Hid True := trivial; clear q6)
        | (go_at_call 4; refine (HRo.out _ KP.out.now KL.out.now).mono ?_; rintro e x3 ⟨rfl, q3⟩; replace KU := hidden (KU.out.step q3); replace KW := hidden (KW.out.step q3); replace KL := hidden (KL.out.step q3); replace KP := hidden (KP.out.step q3); replace K5 := hidden (K5.out.step q3); replace K6 := hidden (K6.out.step q3); have mk_fnodeRoot_1 : Hid True := trivial; clear q3))
      go_ret
      exact ⟨rfl, KW.out.now⟩
    · obtain rfl : n = m := hfcase h40
      have z40 : ¬ (40 : Int) < (n : Int) := by omega
      clear hz40 hfcase h40 hsm hcap
      go_enter Tryz.func3, Tryz.ntmps3
      go_wp2_with (first
        | ((with_reducible refine at_bxd 5 ?_); refine wpList_bx _ rfl _ _ rfl _ rfl ?_; intro x1 g5 hg1 hl1 bq1 q1; replace KU := hidden (KU.out.step q1); replace KW := hidden (KW.out.step q1); replace KL := hidden (KL.out.step q1); replace KP := hidden (KP.out.step q1); have K5 := hidden bq1.kp; clear hg1 hl1 bq1 q1)
        | ((with_reducible refine at_bxd 6 ?_); refine wpList_bx _ rfl _ _ rfl _ rfl ?_; intro x2 g6 hg2 hl2 bq2 q2; replace KU := hidden (KU.out.step q2); replace KW := hidden (KW.out.step q2); replace KL := hidden (KL.out.step q2); replace KP := hidden (KP.out.step q2); replace K5 := hidden (K5.out.step q2); have K6 := hidden bq2.kp; clear hg2 hl2 bq2 q2)
        | ((with_reducible refine at_ald 9 ?_); refine wpList_al _ rfl _ rfl _ zero_hash ?_; intro x4 g9 hg9 hl4 bq4 q4; clear hl4)
        | ((with_reducible refine at_st 9 ?_); refine wpList_sto _ rfl _ _ _ rfl g9 _ ((B R)) rfl rfl bq4 HSR.out.1 HSR.out.2 (B_one _) ?_; intro x5 by5 r5; have q5 := below_row q4 r5 hg9; replace KU := hidden (KU.out.step q5); replace KW := hidden (KW.out.step q5); replace KL := hidden (KL.out.step q5); replace KP := hidden (KP.out.step q5); replace K5 := hidden (K5.out.step q5); replace K6 := hidden (K6.out.step q5); have K9 := hidden by5.kp; clear q5 q4 r5 by5 bq4 hg9)
        | ((with_reducible refine at_ldd 33 5 ?_); refine wpList_ld _ rfl _ _ rfl g5 _ rfl K5.out.now _ _ Tryz.underlying24 HSk.out ?_)
        | ((with_reducible refine at_ald 11 ?_); refine wpList_al _ rfl _ rfl _ zero_proof ?_; intro x7 g11 hg11 hl7 bq7 q7; clear hl7)
        | ((with_reducible refine at_st 11 ?_); refine wpList_sto _ rfl _ _ _ rfl g11 _ ((encR (.slice sa sl sc) N).toArray) rfl rfl bq7 (HSP.out _).1 (HSP.out _).2 (encR_one _ _ _ _) ?_; intro x8 by8 r8; have q8 := below_row q7 r8 hg11; replace KU := hidden (KU.out.step q8); replace KW := hidden (KW.out.step q8); replace KL := hidden (KL.out.step q8); replace KP := hidden (KP.out.step q8); replace K5 := hidden (K5.out.step q8); replace K6 := hidden (K6.out.step q8); replace K9 := hidden (K9.out.step q8); replace KQ := hidden (KQ.out.step q8); have K11 := hidden by8.kp; clear q8 q7 r8 by8 bq7 hg11)
        | ((with_reducible refine at_ldd 44 6 ?_); refine wpList_ld _ rfl _ _ rfl g6 _ rfl K6.out.now _ _ Tryz.underlying25 HSO.out.1 ?_)
        | ((with_reducible refine at_ldd 45 5 ?_); refine wpList_ld _ rfl _ _ rfl g5 _ rfl K5.out.now _ _ Tryz.underlying24 HSk.out ?_)
        | ((with_reducible refine at_ald 13 ?_); refine wpList_al _ rfl _ rfl _ zero_said ?_; intro x10 g13 hg13 hl10 bq10 q10; clear hl10)
        | ((with_reducible refine at_st 13 ?_); refine wpList_sto _ rfl _ _ _ rfl g13 _ ((sdP false z32).toArray) rfl rfl bq10 HS0.out.1 rfl HO0.out ?_; intro x11 by11 r11; have q11 := below_row q10 r11 hg13; replace KU := hidden (KU.out.step q11); replace KW := hidden (KW.out.step q11); replace KL := hidden (KL.out.step q11); replace KP := hidden (KP.out.step q11); replace K5 := hidden (K5.out.step q11); replace K6 := hidden (K6.out.step q11); replace K9 := hidden (K9.out.step q11); replace KQ := hidden (KQ.out.step q11); replace K11 := hidden (K11.out.step q11); have K13 := hidden by11.kp; clear q11 q10 r11 by11 bq10 hg13)
        | ((with_reducible refine at_ldd 52 13 ?_); refine wpList_ldsg _ rfl _ _ rfl g13 _ _ rfl K13.out.now HUS.out HS0.out.1 ?_)
        | ((with_reducible refine at_bdd 53 ?_); refine wpList_bldg _ rfl _ _ rfl _ (by rw [List.map_toArray]; exact HB0.out) ?_)
        | (go_at_call 6; refine (HRn.out _ KL.out.now).mono ?_; rintro e x9 ⟨rfl, q9⟩; replace KU := hidden (KU.out.step q9); replace KW := hidden (KW.out.step q9); replace KL := hidden (KL.out.step q9); replace KP := hidden (KP.out.step q9); replace K5 := hidden (K5.out.step q9); replace K6 := hidden (K6.out.step q9); replace K9 := hidden (K9.out.step q9); replace KQ := hidden (KQ.out.step q9); replace K11 := hidden (K11.out.step q9); have mk_fverifyRead_1 : Hid True := trivial; clear q9)
        | (go_at_call 5; refine (HWy.out _ KP.out.now KL.out.now).mono ?_; rintro e x6 ⟨sa, sc, rfl, hq, q6⟩; replace KU := hidden (KU.out.step q6); replace KW := hidden (KW.out.step q6); replace KL := hidden (KL.out.step q6); replace KP := hidden (KP.out.step q6); replace K5 := hidden (K5.out.step q6); replace K6 := hidden (K6.out.step q6); replace K9 := hidden (K9.out.step q6); have KQ := hidden hq.kp; clear hq; have mk_fnodeWay_1 : Hid True := trivial; clear q6)
        | (go_at_call 4; refine (HRo.out _ KP.out.now KL.out.now).mono ?_; rintro e x3 ⟨rfl, q3⟩; replace KU := hidden (KU.out.step q3); replace KW := hidden (KW.out.step q3); replace KL := hidden (KL.out.step q3); replace KP := hidden (KP.out.step q3); replace K5 := hidden (K5.out.step q3); replace K6 := hidden (K6.out.step q3); have mk_fnodeRoot_1 : Hid True := trivial; clear q3))
      go_ret
      exact ⟨rfl, KW.out.now⟩

end Go.Proofs.YtpihigcnoifcfaaGreatDoor
