/- A store that a walk keeps, in whatever blocks of the walk's own it lies, and each call of it. -/
import Derived.Test.YtkhinjkcfjncgaaGreatDoorNa37
import Derived.Test.YtkhinjkcfjncgaaGreatDoorNa32
import Derived.Test.YtkhinjkcfjncgaaGreatDoorNa33
import Derived.Test.YtkhinjkcfjncgaaGreatDoorNa27
namespace Go.Proofs.YtkhinjkcfjncgaaGreatDoor
set_option maxRecDepth 20000
open Go.RowKit

/-- The store at g holds these nodes, all its blocks are new since w0, and nothing of w0 has turned. -/
def Hw (w0 w : World) (g gs room : Nat) (cs : List (Nat × Ce)) (fr : List Nat) : Prop := (∃ vp vf, Stm w g gs vp vf room cs fr ∧ (∀ k ∈ stB g gs vp vf cs, w0.heap.size ≤ k) ∧ Below w0.heap.size w0 w) ∧ Wf cs []

theorem Hw.low {w0 w : World} {g gs room : Nat} {cs : List (Nat × Ce)} {fr : List Nat} (h : Hw w0 w g gs room cs fr) : Below w0.heap.size w0 w := by
  obtain ⟨⟨_, _, _, _, h⟩, _⟩ := h
  exact h
theorem Hw.grow {w0 w w' : World} {g gs room : Nat} {cs : List (Nat × Ce)} {fr : List Nat} (h : Hw w0 w g gs room cs fr) (hb : Below w.heap.size w w') : Hw w0 w' g gs room cs fr := by
  obtain ⟨⟨vp, vf, h1, h2, h3⟩, h4⟩ := h
  exact ⟨⟨vp, vf, h1.grow hb, h2, grow_trans h3 hb⟩, h4⟩
theorem Hw.vw {w0 w : World} {g gs room : Nat} {cs : List (Nat × Ce)} {fr : List Nat} (h : Hw w0 w g gs room cs fr) : Vw w (.pointer (some ⟨g, 0, none⟩)) true (cot cs) (cat cs) := by
  obtain ⟨⟨vp, vf, h1, h2, h3⟩, h4⟩ := h
  exact vw_ok h1 h4
theorem Hw.inv {w0 w : World} {g gs room : Nat} {cs : List (Nat × Ce)} {fr : List Nat} (h : Hw w0 w g gs room cs fr) : Inv room (cs.map pl) fr := by
  obtain ⟨⟨vp, vf, h1, h2, h3⟩, h4⟩ := h
  exact h1.sl.inv
theorem Hw.turn {w0 w w' : World} {g gs room : Nat} {cs cs' : List (Nat × Ce)} {fr' : List Nat} {vp vf : Value} (h2 : ∀ k ∈ stB g gs vp vf cs, w0.heap.size ≤ k) (h3 : Below w0.heap.size w0 w) (t : STurn w g gs (stB g gs vp vf cs) room cs' fr' w') (hw : Wf cs' []) : Hw w0 w' g gs room cs' fr' := by
  obtain ⟨vp', vf', k1, k2, k3⟩ := t
  exact ⟨⟨vp', vf', k1, k3.base h2 h3.size, h3.trans (k2.below h2 h3.size)⟩, hw⟩

theorem hw_new (room : Nat) (w0 w : World) (hb : Below w0.heap.size w0 w) (h1 : 1 ≤ room) (h2 : room ≤ 65536) : Calls Tryz.prog 46 #[.int .i64 (room : Int)] w fun e w' => ∃ g gs, e = .returned (.tuple #[.pointer (some ⟨g, 0, none⟩), .int .i64 0]) ∧ Hw w0 w' g gs room [] [] := by
  refine (newS_ok room w h1 h2).mono ?_
  rintro e w' ⟨g, gs, rfl, hg, hgs, s, b⟩
  refine ⟨g, gs, rfl, ⟨_, _, s, fun k hk => ?_, grow_trans hb b⟩, Wf.new⟩
  have := hb.size
  rcases stB_mem.1 hk with rfl | hk | ⟨i, hk⟩
  · omega
  · rcases slB_mem.1 hk with rfl | hk | hk
    · omega
    · cases hk
    · cases hk
  · simp only [ce, List.getElem?_nil, Option.getD_none] at hk
    cases hk

theorem leaf_ok (K : List Int) (v : Value) (bs : List Int) (hb : Bytes bs) (hl : bs.length ≤ 1024) : LeafOk (lfC (lfD K (vaD bs)) K v bs) := ⟨rfl, rfl, rfl, rfl, rfl, rfl, hl, hb⟩

theorem hw_leaf {w0 w : World} {g gs room : Nat} {cs : List (Nat × Ce)} {fr : List Nat} (h : Hw w0 w g gs room cs fr) (K : List Int) (v : Value) (bs : List Int) (hr : Reads w v bs) (hK : Key K) (hL : Laid w) (hl : bs.length ≤ 1024) (hf : ¬ Full room cs fr) : Calls Tryz.prog 101 #[.pointer (some ⟨g, 0, none⟩), .agg (B K), v] w fun e w' => ∃ v', e = .returned (.tuple #[.int .i64 (tkH cs fr : Int), .int .i64 0]) ∧ Hw w0 w' g gs room (tkC cs fr (1, lfC (lfD K (vaD bs)) K v' bs)) fr.dropLast := by
  obtain ⟨⟨vp, vf, h1, h2, h3⟩, h4⟩ := h
  have hbs : Bytes bs := by obtain ⟨_, _, _, _, _, hb, _⟩ := hr; exact hb
  refine (leafS_ok h1 K v bs hr hK hL hl hf).mono ?_
  rintro e w' ⟨v', rfl, ok, t⟩
  have tk := (tk_of (frOk_inv h1.sl.inv) (1, lfC (lfD K (vaD bs)) K v' bs)).2
  exact ⟨v', rfl, Hw.turn h2 h3 t (h4.leaf tk (leaf_ok K v' bs hbs hl) ok rfl)⟩

theorem hw_leaf_full {w0 w : World} {g gs room : Nat} {cs : List (Nat × Ce)} {fr : List Nat} (h : Hw w0 w g gs room cs fr) (K : List Int) (v : Value) (bs : List Int) (hr : Reads w v bs) (hK : Key K) (hL : Laid w) (hl : bs.length ≤ 1024) (hf : Full room cs fr) : Calls Tryz.prog 101 #[.pointer (some ⟨g, 0, none⟩), .agg (B K), v] w fun e w' => e = .returned (.tuple #[.int .i64 0, .int .i64 9]) ∧ Hw w0 w' g gs room cs fr := by
  have hh := h
  obtain ⟨⟨vp, vf, h1, h2, h3⟩, h4⟩ := h
  exact (leafS_full h1 K v bs hr hK hL hl hf).mono fun e w' ⟨e1, b⟩ => ⟨e1, hh.grow b⟩

theorem hw_leaf_long {w0 w : World} {g gs room : Nat} {cs : List (Nat × Ce)} {fr : List Nat} (h : Hw w0 w g gs room cs fr) (K : List Int) (v : Value) (bs : List Int) (hr : Reads w v bs) (hK : Key K) (hl : 1024 < bs.length) (hm : bs.length ≤ 140737488355328) : Calls Tryz.prog 101 #[.pointer (some ⟨g, 0, none⟩), .agg (B K), v] w fun e w' => e = .returned (.tuple #[.int .i64 0, .int .i64 4]) ∧ Hw w0 w' g gs room cs fr := by
  have hh := h
  obtain ⟨⟨vp, vf, h1, h2, h3⟩, h4⟩ := h
  exact (leafS_long h1 K v bs hr hK hl hm).mono fun e w' ⟨e1, b⟩ => ⟨e1, hh.grow b⟩

/-! ### Sides that fit -/
theorem Wf.kinds {cs : List (Nat × Ce)} {pend : List Nat} (w : Wf cs pend) (i : Nat) (hi : 0 < cc cs i) : (ce cs i).kind = 1 ∨ (ce cs i).kind = 2 := by
  rcases w.tr i hi with h | h
  · exact .inl h.kind
  · exact .inr h.kind

theorem side_fit {cs : List (Nat × Ce)} {pend : List Nat} (w : Wf cs pend) {h d : Nat} {b : Int} (m : mayP cs (h : Int)) (hf : fsP (sdC cs h) d b = true) : SideOk cs d b h := by
  rcases m.side with e | ⟨h1, h2, h3⟩
  · exact .inl e
  · refine .inr ⟨h1, h2, ?_⟩
    unfold sdC at hf
    rw [if_neg (by omega)] at hf
    unfold fsP at hf
    rcases w.kinds _ h2 with k | k
    · rw [if_pos k] at hf
      exact ⟨by simpa using hf, .inl k⟩
    · rw [if_neg (by omega), if_pos k] at hf
      simp only [Bool.and_eq_true, decide_eq_true_eq] at hf
      exact ⟨hf.2, .inr ⟨k, hf.1⟩⟩

theorem kind0 {cs : List (Nat × Ce)} {pend : List Nat} (w : Wf cs pend) {h : Nat} (m : mayP cs (h : Int)) : (sdC cs h).kind = 0 ↔ h = 0 := by
  constructor
  · intro e
    rcases m.side with e2 | ⟨h1, h2, h3⟩
    · exact e2
    · unfold sdC at e
      rw [if_neg (by omega)] at e
      rcases w.kinds _ h2 with k | k <;> omega
  · rintro rfl
    rfl

theorem inn_ok {cs : List (Nat × Ce)} {pend : List Nat} (w : Wf cs pend) {d l r : Nat} {K : List Int} {u : Bool} (hd : d < 256) (ml : mayP cs (l : Int)) (mr : mayP cs (r : Int)) (hu : u = true ↔ Und (sdC cs l).key (sdC cs r).key (d : Int)) (hf : fitP d (sdC cs l) (sdC cs r) u = true) (hK : IsFill (if (sdC cs l).kind = 0 then (sdC cs r).key else (sdC cs l).key) d 0 K) : InnOk cs (inC (inD (sdD cs l) (sdD cs r)) K ((sdC cs l).sz + (sdC cs r).sz) d l r) := by
  unfold fitP at hf
  simp only [Bool.and_eq_true, Bool.or_eq_true, decide_eq_true_eq] at hf
  obtain ⟨h1, h2, h3, h4⟩ := hf
  refine ⟨rfl, hd, rfl, rfl, side_fit w ml h2, side_fit w mr h3, rfl, h1, fun hl hr => ?_, ?_, rfl⟩
  · rcases h4 with h4 | h4 | h4
    · exact absurd ((kind0 w ml).1 h4) hl
    · exact absurd ((kind0 w mr).1 h4) hr
    · exact hu.1 h4
  · by_cases e : l = 0
    · have := (kind0 w ml).2 e
      rw [if_pos this] at hK
      show IsFill (if l = 0 then _ else _) d 0 K
      rw [if_pos e]
      exact hK
    · have : ¬ (sdC cs l).kind = 0 := fun q => e ((kind0 w ml).1 q)
      rw [if_neg this] at hK
      show IsFill (if l = 0 then _ else _) d 0 K
      rw [if_neg e]
      exact hK

theorem mayP.own {cs : List (Nat × Ce)} {h : Nat} (m : mayP cs (h : Int)) (h0 : h ≠ 0) : 0 < Go.Proofs.YtkhinjkcfjncgaaGreatDoor.own cs [] (h - 1) := by
  rcases m.side with e | ⟨_, _, e⟩
  · exact absurd e h0
  · unfold Go.Proofs.YtkhinjkcfjncgaaGreatDoor.own
    rw [List.count_nil]
    omega

theorem hw_inner {w0 w : World} {g gs room : Nat} {cs : List (Nat × Ce)} {fr : List Nat} (h : Hw w0 w g gs room cs fr) (d l r : Nat) (hd : d < 256) (hml : mayP cs (l : Int)) (hmr : mayP cs (r : Int)) (u : Bool) (hu : u = true ↔ Und (sdC cs l).key (sdC cs r).key (d : Int)) (hf : fitP d (sdC cs l) (sdC cs r) u = true) (hL : Laid w) (hfu : ¬ Full room cs fr) : Calls Tryz.prog 104 #[.pointer (some ⟨g, 0, none⟩), .int .i64 (d : Int), .int .i64 (l : Int), .int .i64 (r : Int)] w fun e w' => ∃ K, IsFill (if (sdC cs l).kind = 0 then (sdC cs r).key else (sdC cs l).key) d 0 K ∧ e = .returned (.tuple #[.int .i64 (tkH cs fr : Int), .int .i64 0]) ∧ Hw w0 w' g gs room (upA (upA (tkC cs fr (1, inC (inD (sdD cs l) (sdD cs r)) K ((sdC cs l).sz + (sdC cs r).sz) d l r)) l) r) fr.dropLast := by
  obtain ⟨⟨vp, vf, h1, h2, h3⟩, h4⟩ := h
  refine (innerS_ok h1 h4 d l r hd hml hmr u hu hf hL hfu).mono ?_
  rintro e w' ⟨K, hK, rfl, t⟩
  have tk := (tk_of (frOk_inv h1.sl.inv) (1, inC (inD (sdD cs l) (sdD cs r)) K ((sdC cs l).sz + (sdC cs r).sz) d l r)).2
  exact ⟨K, hK, rfl, Hw.turn h2 h3 t (h4.inner tk (inn_ok h4 hd hml hmr hu hf hK) ⟨dig_length _, dig_bytes _, hK.1, none, 0, rfl⟩ rfl hml.own hmr.own)⟩

theorem hw_inner_full {w0 w : World} {g gs room : Nat} {cs : List (Nat × Ce)} {fr : List Nat} (h : Hw w0 w g gs room cs fr) (d l r : Nat) (hd : d < 256) (hml : mayP cs (l : Int)) (hmr : mayP cs (r : Int)) (u : Bool) (hu : u = true ↔ Und (sdC cs l).key (sdC cs r).key (d : Int)) (hf : fitP d (sdC cs l) (sdC cs r) u = true) (hL : Laid w) (hfu : Full room cs fr) : Calls Tryz.prog 104 #[.pointer (some ⟨g, 0, none⟩), .int .i64 (d : Int), .int .i64 (l : Int), .int .i64 (r : Int)] w fun e w' => e = .returned (.tuple #[.int .i64 0, .int .i64 9]) ∧ Hw w0 w' g gs room cs fr := by
  have hh := h
  obtain ⟨⟨vp, vf, h1, h2, h3⟩, h4⟩ := h
  exact (innerS_full h1 h4 d l r hd hml hmr u hu hf hL hfu).mono fun e w' ⟨e1, b⟩ => ⟨e1, hh.grow b⟩
theorem hw_inner_unfit {w0 w : World} {g gs room : Nat} {cs : List (Nat × Ce)} {fr : List Nat} (h : Hw w0 w g gs room cs fr) (d l r : Nat) (hd : d < 256) (hml : mayP cs (l : Int)) (hmr : mayP cs (r : Int)) (u : Bool) (hu : u = true ↔ Und (sdC cs l).key (sdC cs r).key (d : Int)) (hf : fitP d (sdC cs l) (sdC cs r) u = false) : Calls Tryz.prog 104 #[.pointer (some ⟨g, 0, none⟩), .int .i64 (d : Int), .int .i64 (l : Int), .int .i64 (r : Int)] w fun e w' => e = .returned (.tuple #[.int .i64 0, .int .i64 2]) ∧ Hw w0 w' g gs room cs fr := by
  have hh := h
  obtain ⟨⟨vp, vf, h1, h2, h3⟩, h4⟩ := h
  exact (innerS_unfit h1 h4 d l r hd hml hmr u hu hf).mono fun e w' ⟨e1, b⟩ => ⟨e1, hh.grow b⟩
theorem hw_inner_miss {w0 w : World} {g gs room : Nat} {cs : List (Nat × Ce)} {fr : List Nat} (h : Hw w0 w g gs room cs fr) (d : Nat) (l r : Int) (hd : d < 256) (hm : ¬ (mayP cs l ∧ mayP cs r)) : Calls Tryz.prog 104 #[.pointer (some ⟨g, 0, none⟩), .int .i64 (d : Int), .int .i64 l, .int .i64 r] w fun e w' => e = .returned (.tuple #[.int .i64 0, .int .i64 7]) ∧ Hw w0 w' g gs room cs fr := by
  have hh := h
  obtain ⟨⟨vp, vf, h1, h2, h3⟩, h4⟩ := h
  exact (innerS_miss h1 h4 d l r hd hm).mono fun e w' ⟨e1, b⟩ => ⟨e1, hh.grow b⟩
theorem hw_inner_arg {w0 w : World} {g gs room : Nat} {cs : List (Nat × Ce)} {fr : List Nat} (h : Hw w0 w g gs room cs fr) (d l r : Int) (hd : d < 0 ∨ 256 ≤ d) : Calls Tryz.prog 104 #[.pointer (some ⟨g, 0, none⟩), .int .i64 d, .int .i64 l, .int .i64 r] w fun e w' => e = .returned (.tuple #[.int .i64 0, .int .i64 2]) ∧ Hw w0 w' g gs room cs fr := by
  have hh := h
  obtain ⟨⟨vp, vf, h1, h2, h3⟩, h4⟩ := h
  exact (innerS_arg h1 d l r hd).mono fun e w' ⟨e1, b⟩ => ⟨e1, hh.grow b⟩

theorem hw_hold {w0 w : World} {g gs room : Nat} {cs : List (Nat × Ce)} {fr : List Nat} (h : Hw w0 w g gs room cs fr) (i : Nat) (hc : 0 < cc cs i) (hm : cc cs i < 1073741824) : Calls Tryz.prog 60 #[.pointer (some ⟨g, 0, none⟩), .int .i64 ((i : Int) + 1)] w fun e w' => e = .returned (.int .i64 0) ∧ Hw w0 w' g gs room (moreC cs i) fr := by
  obtain ⟨⟨vp, vf, h1, h2, h3⟩, h4⟩ := h
  refine (holdS_ok h1 i hc hm).mono ?_
  rintro e w' ⟨rfl, t⟩
  exact ⟨rfl, Hw.turn h2 h3 t (h4.more i hc)⟩
theorem hw_hold_bad {w0 w : World} {g gs room : Nat} {cs : List (Nat × Ce)} {fr : List Nat} (h : Hw w0 w g gs room cs fr) (q : Int) (hc : cot cs q = 0) : Calls Tryz.prog 60 #[.pointer (some ⟨g, 0, none⟩), .int .i64 q] w fun e w' => e = .returned (.int .i64 7) ∧ Hw w0 w' g gs room cs fr := by
  have hh := h
  obtain ⟨⟨vp, vf, h1, h2, h3⟩, h4⟩ := h
  exact (holdS_bad h1 q hc).mono fun e w' ⟨e1, b⟩ => ⟨e1, b ▸ hh⟩
theorem hw_hold_long {w0 w : World} {g gs room : Nat} {cs : List (Nat × Ce)} {fr : List Nat} (h : Hw w0 w g gs room cs fr) (i : Nat) (hc : cc cs i = 1073741824) : Calls Tryz.prog 60 #[.pointer (some ⟨g, 0, none⟩), .int .i64 ((i : Int) + 1)] w fun e w' => e = .returned (.int .i64 4) ∧ Hw w0 w' g gs room cs fr := by
  have hh := h
  obtain ⟨⟨vp, vf, h1, h2, h3⟩, h4⟩ := h
  exact (holdS_long h1 i hc).mono fun e w' ⟨e1, b⟩ => ⟨e1, b ▸ hh⟩

theorem hw_drop {w0 w : World} {g gs room : Nat} {cs : List (Nat × Ce)} {fr : List Nat} (h : Hw w0 w g gs room cs fr) (i : Nat) (ho : 0 < own cs [] i) : Calls Tryz.prog 62 #[.pointer (some ⟨g, 0, none⟩), .int .i64 ((i + 1 : Nat) : Int)] w fun e w' => ∃ cs' fr' n, Run cs fr [i + 1] cs' fr' n ∧ Step cs [i + 1] cs' [] n ∧ e = .returned (.tuple #[.int .i64 (n : Int), .int .i64 0]) ∧ Hw w0 w' g gs room cs' fr' := by
  obtain ⟨⟨vp, vf, h1, h2, h3⟩, h4⟩ := h
  refine (dropS_ok h1 h4 i ho).mono ?_
  rintro e w' ⟨cs', fr', n, hr, rfl, t⟩
  have st := hr.step (h4.less i ho)
  exact ⟨cs', fr', n, hr, st, rfl, Hw.turn h2 h3 t st.wf⟩
theorem hw_drop_miss {w0 w : World} {g gs room : Nat} {cs : List (Nat × Ce)} {fr : List Nat} (h : Hw w0 w g gs room cs fr) (q : Int) (hm : cot cs q ≤ (cat cs q).ab) : Calls Tryz.prog 62 #[.pointer (some ⟨g, 0, none⟩), .int .i64 q] w fun e w' => e = .returned (.tuple #[.int .i64 0, .int .i64 7]) ∧ Hw w0 w' g gs room cs fr := by
  have hh := h
  obtain ⟨⟨vp, vf, h1, h2, h3⟩, h4⟩ := h
  exact (dropS_miss h1 h4 q hm).mono fun e w' ⟨e1, b⟩ => ⟨e1, hh.grow b⟩

theorem hw_occ {w0 w : World} {g gs room : Nat} {cs : List (Nat × Ce)} {fr : List Nat} (h : Hw w0 w g gs room cs fr) : Calls Tryz.prog 26 #[.pointer (some ⟨g, 0, none⟩)] w fun e w' => e = .returned (.int .i64 (noc cs : Int)) ∧ Below w.heap.size w w' := by
  obtain ⟨⟨vp, vf, h1, h2, h3⟩, h4⟩ := h
  exact occS_ok h1
theorem hw_hnd {w0 w : World} {g gs room : Nat} {cs : List (Nat × Ce)} {fr : List Nat} (h : Hw w0 w g gs room cs fr) : Calls Tryz.prog 33 #[.pointer (some ⟨g, 0, none⟩)] w fun e w' => ∃ a c, e = .returned (.slice a (slotsOf (cs.map pl)).length c) ∧ w'.ownsRow w.heap.size 3 1 (.slice a (slotsOf (cs.map pl)).length c) (slotsOf (cs.map pl)).length (nats (slotsOf (cs.map pl))) ∧ Below w.heap.size w w' := by
  obtain ⟨⟨vp, vf, h1, h2, h3⟩, h4⟩ := h
  exact hndS_ok h1

end Go.Proofs.YtkhinjkcfjncgaaGreatDoor

/- walk.fork and walk.Handles, as contracts. -/
namespace Go.Proofs.YtkhinjkcfjncgaaGreatDoor
set_option maxRecDepth 20000
open Go.RowKit

theorem pth_ln (D : List Int) (h : D.length = 32) : (Tryz.prog.info? 72).map (·.size) = some (B D).toList.length := by rw [B_toList, List.length_map, h]; exact size_path

set_option maxHeartbeats 2000000 in
theorem fork_any {w : World} {v : Value} {ct : Int → Nat} {ca : Int → Ce} (V : Vw w v true ct ca) (h : Int) (K : List Int) (hK : Key K) (hk : (ca h).kind = 2) (hd : (ca h).dp < 256) : Calls Tryz.prog 199 #[v, .int .i64 h, .agg (B K)] w fun e w' => e = .returned (.tuple #[.int .i64 ((if kb K (ca h).dp = 1 then (ca h).r else (ca h).l : Nat) : Int), .int .i64 ((if kb K (ca h).dp = 1 then (ca h).l else (ca h).r : Nat) : Int)]) ∧ Below w.heap.size w w' := by
  have HSD : Hid (∀ w', Below w.heap.size w w' → Calls Tryz.prog 71 #[v, .int .i64 h] w' fun e w'' => e = .returned (.tuple #[.int .i64 ((ca h).l : Int), .int .i64 ((ca h).r : Int)]) ∧ Below w'.heap.size w' w'') := fun w' hb => sides_any (V.grow hb) h
  have HDP : Hid (∀ w', Below w.heap.size w w' → Calls Tryz.prog 83 #[v, .int .i64 h] w' fun e w'' => e = .returned (.int .i64 ((ca h).dp : Int)) ∧ Below w'.heap.size w' w'') := fun w' hb => by
    have := depth_any (V.grow hb) h
    rwa [show vDp true (ca h) = ((ca h).dp : Int) by simp [vDp, hk]] at this
  have HBT : Hid (∀ w', Calls Tryz.prog 201 #[.agg (B K), .int .i64 ((ca h).dp : Int)] w' fun e w'' => e = .returned (.int .i64 (kb K (ca h).dp)) ∧ Below w'.heap.size w' w'') := fun w' => by
    have := bit_any K ((ca h).dp : Int) w' hK
    rwa [kbi_in K _ hd] at this
  have HPL := hidden (pth_ln K hK.1)
  clear V hk hd hK
  generalize (ca h).l = l at HSD ⊢
  generalize (ca h).r = r at HSD ⊢
  generalize (ca h).dp = d at HDP HBT ⊢
  have hq := kb_two K d
  generalize kb K d = q at HBT hq ⊢
  generalize hdd : (d : Int) = dd at HDP HBT
  clear hdd
  rcases hq with rfl | rfl
  · rw [if_neg (by omega), if_neg (by omega)]
    go_enter Tryz.func199, Tryz.ntmps199
    go_wp2_with (first
      | ((with_reducible refine at_bxd 5 ?_); refine wpList_bx _ rfl _ _ rfl _ rfl ?_; intro w1 b5 hg5 hl5 B5 q5; have HB5 := hidden B5; have HQ5 := hidden q5; clear hg5 hl5 B5 q5)
      | (go_at_call 71; refine (HSD.out _ HQ5.out).mono ?_; rintro e w2 ⟨rfl, b2⟩; have HB52 := hidden (HB5.out.grow b2); have HQ2 := hidden (grow_trans HQ5.out b2); clear b2))
    refine wp_region_held_drew (S := fun w' => Below w2.heap.size w2 w') (by kernel_rfl) ((below_drewN (Below.refl _ _) 1)) (fun hHeld => ?_)
    refine wpAnyH_take (i := 0) (v := .agg (B K)) rfl (by kernel_rfl) (by kernel_rfl) (by kernel_rfl) (fun _ _ _ h => h) (yieldsIf_load_mid rfl 72 (.tmp 5) rfl b5 0 rfl (B K).toList _ (fun w hS => (HB52.out.grow hS).range) Tryz.underlying72 rfl HPL.out) hHeld ?_
    simp only [Act.put, List.getElem_toArray, List.getElem_cons_zero, List.setIfInBounds_toArray, List.set_cons_zero, List.set_cons_succ]
    refine wpAnyH_take (i := 1) (v := v) rfl (by kernel_rfl) (by kernel_rfl) (by kernel_rfl) (fun _ _ _ h => h) (Or.inl ⟨by rfl, fun w hS => by go_simp⟩) hHeld ?_
    simp only [Act.put, List.getElem_toArray, List.getElem_cons_zero, List.getElem_cons_succ, List.setIfInBounds_toArray, List.set_cons_zero, List.set_cons_succ]
    refine wpAnyH_take (i := 2) (v := .int .i64 h) rfl (by kernel_rfl) (by kernel_rfl) (by kernel_rfl) (fun _ _ _ h => h) (Or.inl ⟨by rfl, fun w hS => by go_simp⟩) hHeld ?_
    simp only [Act.put, List.getElem_toArray, List.getElem_cons_zero, List.getElem_cons_succ, List.setIfInBounds_toArray, List.set_cons_zero, List.set_cons_succ]
    refine wpAnyH_ready (rs := [3]) (by kernel_rfl) (by simp) ?_
    refine AllReadyH.cons rfl (fun KQ hK => ?_) AllReadyH.nil
    go_simp
    refine (HDP.out _ (grow_trans HQ2.out hHeld)).mono ?_
    rintro e z1 ⟨rfl, a1⟩
    refine hK.out _ _ (grow_trans hHeld a1) (fun hHeld => ?_)
    clear hK KQ
    refine wpAnyH_ready (rs := [4]) (by kernel_rfl) (by simp) ?_
    refine AllReadyH.cons rfl (fun KQ hK => ?_) AllReadyH.nil
    go_simp
    refine (HBT.out _).mono ?_
    rintro e z2 ⟨rfl, a2⟩
    refine hK.out _ _ (grow_trans hHeld a2) (fun hHeld => ?_)
    clear hK KQ
    refine wpAnyH_take (i := 5) (v := .bool false) rfl (by kernel_rfl) (by kernel_rfl) (by kernel_rfl) (fun _ _ _ h => h) (Or.inl ⟨by rfl, fun w hS => by go_simp⟩) hHeld ?_
    simp only [Act.put, List.getElem_toArray, List.getElem_cons_zero, List.getElem_cons_succ, List.setIfInBounds_toArray, List.set_cons_zero, List.set_cons_succ]
    refine wpAnyH_done (by kernel_rfl) ?_ _
    go_wp2
    go_ret2
    exact ⟨rfl, grow_trans HQ2.out hHeld⟩
  · rw [if_pos rfl, if_pos rfl]
    go_enter Tryz.func199, Tryz.ntmps199
    go_wp2_with (first
      | ((with_reducible refine at_bxd 5 ?_); refine wpList_bx _ rfl _ _ rfl _ rfl ?_; intro w1 b5 hg5 hl5 B5 q5; have HB5 := hidden B5; have HQ5 := hidden q5; clear hg5 hl5 B5 q5)
      | (go_at_call 71; refine (HSD.out _ HQ5.out).mono ?_; rintro e w2 ⟨rfl, b2⟩; have HB52 := hidden (HB5.out.grow b2); have HQ2 := hidden (grow_trans HQ5.out b2); clear b2))
    refine wp_region_held_drew (S := fun w' => Below w2.heap.size w2 w') (by kernel_rfl) ((below_drewN (Below.refl _ _) 1)) (fun hHeld => ?_)
    refine wpAnyH_take (i := 0) (v := .agg (B K)) rfl (by kernel_rfl) (by kernel_rfl) (by kernel_rfl) (fun _ _ _ h => h) (yieldsIf_load_mid rfl 72 (.tmp 5) rfl b5 0 rfl (B K).toList _ (fun w hS => (HB52.out.grow hS).range) Tryz.underlying72 rfl HPL.out) hHeld ?_
    simp only [Act.put, List.getElem_toArray, List.getElem_cons_zero, List.setIfInBounds_toArray, List.set_cons_zero, List.set_cons_succ]
    refine wpAnyH_take (i := 1) (v := v) rfl (by kernel_rfl) (by kernel_rfl) (by kernel_rfl) (fun _ _ _ h => h) (Or.inl ⟨by rfl, fun w hS => by go_simp⟩) hHeld ?_
    simp only [Act.put, List.getElem_toArray, List.getElem_cons_zero, List.getElem_cons_succ, List.setIfInBounds_toArray, List.set_cons_zero, List.set_cons_succ]
    refine wpAnyH_take (i := 2) (v := .int .i64 h) rfl (by kernel_rfl) (by kernel_rfl) (by kernel_rfl) (fun _ _ _ h => h) (Or.inl ⟨by rfl, fun w hS => by go_simp⟩) hHeld ?_
    simp only [Act.put, List.getElem_toArray, List.getElem_cons_zero, List.getElem_cons_succ, List.setIfInBounds_toArray, List.set_cons_zero, List.set_cons_succ]
    refine wpAnyH_ready (rs := [3]) (by kernel_rfl) (by simp) ?_
    refine AllReadyH.cons rfl (fun KQ hK => ?_) AllReadyH.nil
    go_simp
    refine (HDP.out _ (grow_trans HQ2.out hHeld)).mono ?_
    rintro e z1 ⟨rfl, a1⟩
    refine hK.out _ _ (grow_trans hHeld a1) (fun hHeld => ?_)
    clear hK KQ
    refine wpAnyH_ready (rs := [4]) (by kernel_rfl) (by simp) ?_
    refine AllReadyH.cons rfl (fun KQ hK => ?_) AllReadyH.nil
    go_simp
    refine (HBT.out _).mono ?_
    rintro e z2 ⟨rfl, a2⟩
    refine hK.out _ _ (grow_trans hHeld a2) (fun hHeld => ?_)
    clear hK KQ
    refine wpAnyH_take (i := 5) (v := .bool true) rfl (by kernel_rfl) (by kernel_rfl) (by kernel_rfl) (fun _ _ _ h => h) (Or.inl ⟨by rfl, fun w hS => by go_simp⟩) hHeld ?_
    simp only [Act.put, List.getElem_toArray, List.getElem_cons_zero, List.getElem_cons_succ, List.setIfInBounds_toArray, List.set_cons_zero, List.set_cons_succ]
    refine wpAnyH_done (by kernel_rfl) ?_ _
    go_wp2
    go_ret2
    exact ⟨rfl, grow_trans HQ2.out hHeld⟩

/-- What Handles answers of a root that is one. -/
def HdPost (hs : List Nat) (fin : Int) (w : World) (e : Ending) (w' : World) : Prop :=
  ∃ a c, e = .returned (.tuple #[.slice a hs.length c, .int .i64 fin, .int .i64 0]) ∧ w'.ownsRow w.heap.size 3 1 (.slice a hs.length c) hs.length (nats hs) ∧ Below w.heap.size w w'

set_option maxHeartbeats 400000 in
theorem handles_bad {w : World} {v : Value} {mk : Bool} {ct : Int → Nat} {ca : Int → Ce} (V : Vw w v mk ct ca) (h : Int) (K : List Int) (e0 : Int) (he : vRt mk (ct h) (ca h) h = e0) (h0 : e0 ≠ 0) : Calls Tryz.prog 162 #[v, .int .i64 h, .agg (B K)] w fun e w' => e = .returned (.tuple #[.slice none 0 0, .int .i64 0, .int .i64 e0]) ∧ Below w.heap.size w w' := by
  have HR : Hid (∀ w', Below w.heap.size w w' → Calls Tryz.prog 89 #[v, .int .i64 h] w' fun e w'' => e = .returned (.int .i64 e0) ∧ Below w'.heap.size w' w'') := fun w' hb => by
    have := root_any (V.grow hb) h
    rwa [he] at this
  have hb0 : (e0 == 0) = false := by simp [h0]
  clear V he h0
  go_enter Tryz.func162, Tryz.ntmps162
  go_wp2_with (first
    | ((with_reducible refine at_bxd 5 ?_); refine wpList_bx _ rfl _ _ rfl _ rfl ?_; intro w1 b5 hg5 hl5 B5 q5; have HQ5 := hidden q5; clear hg5 hl5 B5 q5)
    | (go_at_call 89; refine (HR.out _ HQ5.out).mono ?_; rintro e w2 ⟨rfl, b2⟩))
  go_ret3
  exact ⟨rfl, grow_trans HQ5.out b2⟩

def sLen : Value → Nat
  | .slice _ n _ => n
  | _ => 0

theorem cat_is {cs : List (Nat × Ce)} {h : Nat} (h1 : 1 ≤ h) : cat cs (h : Int) = ce cs (h - 1) := by
  rw [cat_nat, sdC, if_neg (by omega)]

set_option maxHeartbeats 4000000 in
theorem handles_any {w : World} {v : Value} {cs : List (Nat × Ce)} {pend : List Nat} (V : Vw w v true (cot cs) (cat cs)) (W : Wf cs pend) (h : Nat) (T : Tre) (hT : IsT cs h T) (K : List Int) (hK : Key K) (he : vRt true (cot cs h) (cat cs h) h = 0) : Calls Tryz.prog 162 #[v, .int .i64 (h : Int), .agg (B K)] w (HdPost (T.hs K h) (T.fin K h) w) := by
  have HR : Hid (∀ w', Below w.heap.size w w' → Calls Tryz.prog 89 #[v, .int .i64 (h : Int)] w' fun e w'' => e = .returned (.int .i64 0) ∧ Below w'.heap.size w' w'') := fun w' hb => by
    have := root_any (V.grow hb) (h : Int)
    rwa [he] at this
  have HPS : Hid ((Tryz.prog.info? 72).map (·.size) = some (B K).size) := by show _ = _; rw [B_size, hK.1]; exact size_path
  have HV := hidden V
  have HW := hidden W
  have HK := hidden hK
  have HT := hidden hT
  have HN : Hid ((T.hs K h).length ≤ 256) := by
    show _ ≤ _
    rw [Tre.hs_oth]
    by_cases k : (sdC cs h).kind = 2
    · have := (way_tree W K T h (sdC cs h).dp hT (fun _ => rfl) (by
        match T, hT with
        | .emp, e => exact absurd k (by rw [show h = 0 from e]; show ¬ zc.kind = 2; decide)
        | .lf _ _, ⟨h1, _, h3, _⟩ => rw [sdC, if_neg (by omega)] at k; omega
        | .nd d hl hr L R, hT => 
          have := (nd_ok W hT).dp
          obtain ⟨h1, _, _, h4, _⟩ := hT
          rw [sdC, if_neg (by omega), h4]
          omega)).2.2
      omega
    · have := (way_tree W K T h 0 hT (fun q => absurd q k) (by omega)).2.2
      omega
  have HPost : Hid (∀ a c w', w'.ownsRow w.heap.size 3 1 (.slice a (T.hs K h).length c) (T.hs K h).length (nats (T.hs K h)) → Below w.heap.size w w' → HdPost (T.hs K h) (T.fin K h) w (.returned (.tuple #[.slice a (T.hs K h).length c, .int .i64 (T.fin K h : Int), .int .i64 0])) w') := fun a c w' h1 h2 => ⟨a, c, rfl, h1, h2⟩
  obtain ⟨hh, hhe⟩ : ∃ y : Int, y = (h : Int) := ⟨_, rfl⟩
  rw [← hhe] at HR ⊢
  have HHE := hidden hhe
  clear V W hK hT he hhe
  generalize HE : HdPost (T.hs K h) (T.fin K h) w = P at HPost ⊢
  go_enter Tryz.func162, Tryz.ntmps162
  go_wp2_with (first
    | ((with_reducible refine at_bxd 5 ?_); refine wpList_bx _ rfl _ _ rfl _ rfl ?_; intro w1 b5 hg5 hl5 B5 q5; have HB5 := hidden B5; have HQ5 := hidden q5; have HG5 := hidden hg5; clear hg5 hl5 B5 q5)
    | (go_at_call 89; refine (HR.out _ HQ5.out).mono ?_; rintro e w2 ⟨rfl, b2⟩; have HB52 := hidden (HB5.out.grow b2); have HQ2 := hidden (grow_trans HQ5.out b2); clear b2))
  clear HR HB5 HQ5 HG5
  go_loopw [6, 7] (fun wv ev wr => ∃ (pre : List Nat) (x : Nat) (U : Tre) (a : Option Addr) (n c : Nat), wv = .slice a n c ∧ ev = .int .i64 (x : Int) ∧ Hid (n = pre.length) ∧ Hid (wr.ownsRow w2.heap.size 3 1 (.slice a n c) n (nats pre)) ∧ Hid (IsT cs x U ∧ pre ++ U.hs K x = T.hs K h ∧ U.fin K x = T.fin K h) ∧ Hid (Below w2.heap.size w2 wr)) (fun wv _ _ => 300 - sLen wv)
  case atStart => exact ⟨[], h, T, none, 0, 0, rfl, by rw [HHE.out], rfl, World.ownsRow_nil _ _ _ _, ⟨HT.out, rfl, rfl⟩, Below.refl _ _⟩
  case round =>
    clear HT HHE
    obtain ⟨pre, x, U, a, n, c, rfl, rfl, hn, hO, hU, hB⟩ := hrel
    have HVR := hidden (HV.out.grow (grow_trans HQ2.out hB.out))
    have hlen : n + (U.hs K x).length = (T.hs K h).length := by
      have := congrArg List.length hU.out.2.1
      rw [List.length_append] at this
      rw [hn.out]
      exact this
    have h256 := HN.out
    have HKD : Hid (Calls Tryz.prog 81 #[v, .int .i64 (x : Int)] wr fun e w' => e = .returned (.int .u8 (cat cs (x : Int)).kind) ∧ Below wr.heap.size wr w') := kind_any HVR.out (x : Int)
    have HFin : Hid (U.hs K x = [] → U.fin K x = x → ∀ w', Below wr.heap.size wr w' → P (.returned (.tuple #[.slice a n c, .int .i64 (x : Int), .int .i64 0])) w') := fun e1 e2 w' hb => by
      have q1 := hU.out.2.1
      rw [e1, List.append_nil] at q1
      have q2 := hU.out.2.2
      rw [e2] at q2
      have q3 := hn.out
      have hO' := owR_grow (owR_base hO.out HQ2.out.size) hb
      rw [q3, q1] at hO'
      rw [q3, q1, q2]
      exact HPost.out a c w' hO' (grow_trans (grow_trans HQ2.out hB.out) hb)
    cases U with
    | emp =>
      have hx : x = 0 := hU.out.1
      have HKZ : Hid ((cat cs (x : Int)).kind = 0) := by rw [hx]; rfl
      rw [HKZ.out] at HKD
      have HF := hidden (HFin.out rfl rfl)
      generalize (x : Int) = y at HKD HF ⊢
      clear HFin HKZ hx hU hlen h256 HVR
      go_wp2_with (first
        | (go_at_call 81; refine HKD.out.mono ?_; rintro e w3 ⟨rfl, b3⟩; have HB3 := hidden b3; clear b3))
      go_ret3
      exact HF.out _ HB3.out
    | lf k b =>
      obtain ⟨h1, h2, h3, h4, h5⟩ := hU.out.1
      have HKZ : Hid ((cat cs (x : Int)).kind = 1) := by rw [cat_is h1]; exact h3
      rw [HKZ.out] at HKD
      have HF := hidden (HFin.out rfl rfl)
      generalize (x : Int) = y at HKD HF ⊢
      clear HFin HKZ hU hlen h256 HVR h1 h2 h3 h4 h5
      go_wp2_with (first
        | (go_at_call 81; refine HKD.out.mono ?_; rintro e w3 ⟨rfl, b3⟩; have HB3 := hidden b3; clear b3))
      go_ret3
      exact HF.out _ HB3.out
    | nd d hl hr L R =>
      have hno := nd_ok HW.out hU.out.1
      obtain ⟨h1, h2, h3, h4, h5, h6, h7, h8⟩ := hU.out.1
      have hca := cat_is (cs := cs) h1
      rw [show (cat cs (x : Int)).kind = 2 by rw [hca]; exact h3] at HKD
      have HFK : Hid (∀ w', Below w.heap.size w w' → Calls Tryz.prog 199 #[v, .int .i64 (x : Int), .agg (B K)] w' fun e w'' => e = .returned (.tuple #[.int .i64 ((if kb K d = 1 then hr else hl : Nat) : Int), .int .i64 ((if kb K d = 1 then hl else hr : Nat) : Int)]) ∧ Below w'.heap.size w' w'') := fun w' hb => by
        have := fork_any (HV.out.grow hb) (x : Int) K HK.out (by rw [hca]; exact h3) (by rw [hca, h4]; exact hno.dp)
        rw [hca, h4, h5, h6] at this
        exact this
      have hcut : (Tre.nd d hl hr L R).hs K x = x :: (if kb K d = 1 then R.hs K hr else L.hs K hl) := rfl
      have hfi : (Tre.nd d hl hr L R).fin K x = (if kb K d = 1 then R.fin K hr else L.fin K hl) := rfl
      have HNX : Hid (∃ U', IsT cs (if kb K d = 1 then hr else hl) U' ∧ (pre ++ [x]) ++ U'.hs K (if kb K d = 1 then hr else hl) = T.hs K h ∧ U'.fin K (if kb K d = 1 then hr else hl) = T.fin K h) := by
        have q1 := hU.out.2.1
        have q2 := hU.out.2.2
        rw [hcut] at q1
        rw [hfi] at q2
        show ∃ _, _
        by_cases q : kb K d = 1
        · rw [if_pos q] at q1 q2 ⊢
          exact ⟨R, h8, by rw [List.append_assoc]; exact q1, q2⟩
        · rw [if_neg q] at q1 q2 ⊢
          exact ⟨L, h7, by rw [List.append_assoc]; exact q1, q2⟩
      have hn256 : n + 1 ≤ 256 := by
        rw [hcut, List.length_cons] at hlen
        omega
      generalize (if kb K d = 1 then hr else hl : Nat) = m1 at HFK HNX
      generalize (if kb K d = 1 then hl else hr : Nat) = m2 at HFK
      obtain ⟨y, hy⟩ : ∃ y : Int, y = (x : Int) := ⟨_, rfl⟩
      rw [← hy] at HKD HFK
      rw [← hy]
      have HY := hidden hy
      have H256 := hidden hn256
      clear HFin hU hlen h256 HVR h1 h2 h3 h4 h5 h6 h7 h8 hca hcut hfi hno hy hn256
      go_wp2_with (first
        | (go_at_call 81; refine HKD.out.mono ?_; rintro e w3 ⟨rfl, b3⟩; have HB3 := hidden b3; have HO3 := hidden ((owR_grow (owR_grow hO.out b3) (grow_alloc w3 (.cells #[.int .i64 y] 3)))); clear b3)
        | (at_builtin; refine wpList_appB _ rfl _ _ _ rfl w2.heap.size 3 1 8 Tryz.underlying23 info_nat (by omega) _ n (nats pre) rfl HO3.out w3.heap.size [Value.int .i64 y] rfl (Blk.new _ _ _) rfl (by intro u hu; simp at hu; subst hu; rfl) (by have := H256.out; simp only [maxLen]; omega) (by have := H256.out; omega) (Nat.le_trans hB.out.size (Nat.le_trans HB3.out.size (by simp))) ?_; intro a4 c4 w4 o4 g4; have HO4 := hidden o4; have HB4 := hidden (owR_below (grow_trans (grow_trans hB.out HB3.out) (grow_alloc w3 (.cells #[.int .i64 y] 3))) HO3.out (Nat.le_refl _) g4); clear o4 g4)
        | ((with_reducible refine at_ldd 30 5 ?_); refine wpList_ld _ rfl _ _ rfl b5 _ rfl (HB52.out.grow HB4.out) _ _ Tryz.underlying72 HPS.out ?_)
        | (go_at_call 199; refine (HFK.out _ (grow_trans HQ2.out HB4.out)).mono ?_; rintro e w5 ⟨rfl, b5'⟩; have HB5 := hidden b5'; clear b5'))
      obtain ⟨U', hU1, hU2, hU3⟩ := HNX.out
      have ho5 := owR_grow HO4.out HB5.out
      rw [HY.out, ← nats_snoc] at ho5
      exact ⟨⟨pre ++ [x], m1, U', a4, n + 1, c4, rfl, rfl, by rw [List.length_append, List.length_singleton, ← hn.out]; exact rfl, ho5, ⟨hU1, hU2, hU3⟩, grow_trans HB4.out HB5.out⟩, by have := H256.out; simp only [sLen]; omega⟩

end Go.Proofs.YtkhinjkcfjncgaaGreatDoor
