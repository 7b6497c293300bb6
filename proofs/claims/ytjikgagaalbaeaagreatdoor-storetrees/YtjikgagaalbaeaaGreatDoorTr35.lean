/- A store that a walk keeps, in whatever blocks of the walk's own it lies, and each call of it. -/
import Derived.Test.YtjikgagaalbaeaaGreatDoorTr34
namespace Go.Proofs.YtjikgagaalbaeaaGreatDoor
set_option maxRecDepth 20000
open Go.RowKit

/-- The store at g holds these nodes, all its blocks are new since w0, and nothing of w0 has turned. -/
def Hw (w0 w : World) (g gs room : Nat) (cs : List (Nat × Ce)) (fr : List Nat) : Prop := (∃ vp vf, Stm w g gs vp vf room cs fr ∧ (∀ k ∈ stB g gs vp vf cs, w0.heap.size ≤ k) ∧ Below w0.heap.size w0 w) ∧ Wf cs []

theorem Hw.low {w0 w : World} {g gs room : Nat} {cs : List (Nat × Ce)} {fr : List Nat} (h : Hw w0 w g gs room cs fr) : Below w0.heap.size w0 w := by
  obtain ⟨⟨_, _, _, _, h⟩, _⟩ := h
  exact h
theorem Hw.grow {w0 w w' : World} {g gs room : Nat} {cs : List (Nat × Ce)} {fr : List Nat} (h : Hw w0 w g gs room cs fr) (hb : Below w.heap.size w w') : Hw w0 w' g gs room cs fr := by
  obtain ⟨⟨vp, vf, h1, h2, h3⟩, h4⟩ := h
  exact ⟨⟨vp, vf, h1.grow hb, h2, grow_trans h3 hb⟩, h4⟩
theorem Hw.vw {w0 w : World} {g gs room : Nat} {cs : List (Nat × Ce)} {fr : List Nat} (h : Hw w0 w g gs room cs fr) : Vw w (.pointer (some ⟨g, 0, none⟩)) true (cot cs) (cat cs) := by
  obtain ⟨⟨vp, vf, h1, h2, h3⟩, h4⟩ := h
  exact vw_ok h1 h4
theorem Hw.inv {w0 w : World} {g gs room : Nat} {cs : List (Nat × Ce)} {fr : List Nat} (h : Hw w0 w g gs room cs fr) : Inv room (cs.map pl) fr := by
  obtain ⟨⟨vp, vf, h1, h2, h3⟩, h4⟩ := h
  exact h1.sl.inv
theorem Hw.turn {w0 w w' : World} {g gs room : Nat} {cs cs' : List (Nat × Ce)} {fr' : List Nat} {vp vf : Value} (h2 : ∀ k ∈ stB g gs vp vf cs, w0.heap.size ≤ k) (h3 : Below w0.heap.size w0 w) (t : STurn w g gs (stB g gs vp vf cs) room cs' fr' w') (hw : Wf cs' []) : Hw w0 w' g gs room cs' fr' := by
  obtain ⟨vp', vf', k1, k2, k3⟩ := t
  exact ⟨⟨vp', vf', k1, k3.base h2 h3.size, h3.trans (k2.below h2 h3.size)⟩, hw⟩

theorem hw_new (room : Nat) (w0 w : World) (hb : Below w0.heap.size w0 w) (h1 : 1 ≤ room) (h2 : room ≤ 65536) : Calls Tryz.prog 5 #[.int .i64 (room : Int)] w fun e w' => ∃ g gs, e = .returned (.tuple #[.pointer (some ⟨g, 0, none⟩), .int .i64 0]) ∧ Hw w0 w' g gs room [] [] := by
  refine (newS_ok room w h1 h2).mono ?_
  rintro e w' ⟨g, gs, rfl, hg, hgs, s, b⟩
  refine ⟨g, gs, rfl, ⟨_, _, s, fun k hk => ?_, grow_trans hb b⟩, Wf.new⟩
  have := hb.size
  rcases stB_mem.1 hk with rfl | hk | ⟨i, hk⟩
  · omega
  · rcases slB_mem.1 hk with rfl | hk | hk
    · omega
    · cases hk
    · cases hk
  · simp only [ce, List.getElem?_nil, Option.getD_none] at hk
    cases hk

theorem leaf_ok (K : List Int) (v : Value) (bs : List Int) (hb : Bytes bs) (hl : bs.length ≤ 1024) : LeafOk (lfC (lfD K (vaD bs)) K v bs) := ⟨rfl, rfl, rfl, rfl, rfl, rfl, hl, hb⟩

theorem hw_leaf {w0 w : World} {g gs room : Nat} {cs : List (Nat × Ce)} {fr : List Nat} (h : Hw w0 w g gs room cs fr) (K : List Int) (v : Value) (bs : List Int) (hr : Reads w v bs) (hK : Key K) (hL : Laid w) (hl : bs.length ≤ 1024) (hf : ¬ Full room cs fr) : Calls Tryz.prog 21 #[.pointer (some ⟨g, 0, none⟩), .agg (B K), v] w fun e w' => ∃ v', e = .returned (.tuple #[.int .i64 (tkH cs fr : Int), .int .i64 0]) ∧ Hw w0 w' g gs room (tkC cs fr (1, lfC (lfD K (vaD bs)) K v' bs)) fr.dropLast := by
  obtain ⟨⟨vp, vf, h1, h2, h3⟩, h4⟩ := h
  have hbs : Bytes bs := by obtain ⟨_, _, _, _, _, hb, _⟩ := hr; exact hb
  refine (leafS_ok h1 K v bs hr hK hL hl hf).mono ?_
  rintro e w' ⟨v', rfl, ok, t⟩
  have tk := (tk_of (frOk_inv h1.sl.inv) (1, lfC (lfD K (vaD bs)) K v' bs)).2
  exact ⟨v', rfl, Hw.turn h2 h3 t (h4.leaf tk (leaf_ok K v' bs hbs hl) ok rfl)⟩

theorem hw_leaf_full {w0 w : World} {g gs room : Nat} {cs : List (Nat × Ce)} {fr : List Nat} (h : Hw w0 w g gs room cs fr) (K : List Int) (v : Value) (bs : List Int) (hr : Reads w v bs) (hK : Key K) (hL : Laid w) (hl : bs.length ≤ 1024) (hf : Full room cs fr) : Calls Tryz.prog 21 #[.pointer (some ⟨g, 0, none⟩), .agg (B K), v] w fun e w' => e = .returned (.tuple #[.int .i64 0, .int .i64 9]) ∧ Hw w0 w' g gs room cs fr := by
  have hh := h
  obtain ⟨⟨vp, vf, h1, h2, h3⟩, h4⟩ := h
  exact (leafS_full h1 K v bs hr hK hL hl hf).mono fun e w' ⟨e1, b⟩ => ⟨e1, hh.grow b⟩

theorem hw_leaf_long {w0 w : World} {g gs room : Nat} {cs : List (Nat × Ce)} {fr : List Nat} (h : Hw w0 w g gs room cs fr) (K : List Int) (v : Value) (bs : List Int) (hr : Reads w v bs) (hK : Key K) (hl : 1024 < bs.length) (hm : bs.length ≤ 140737488355328) : Calls Tryz.prog 21 #[.pointer (some ⟨g, 0, none⟩), .agg (B K), v] w fun e w' => e = .returned (.tuple #[.int .i64 0, .int .i64 4]) ∧ Hw w0 w' g gs room cs fr := by
  have hh := h
  obtain ⟨⟨vp, vf, h1, h2, h3⟩, h4⟩ := h
  exact (leafS_long h1 K v bs hr hK hl hm).mono fun e w' ⟨e1, b⟩ => ⟨e1, hh.grow b⟩

/-! ### Sides that fit -/
theorem Wf.kinds {cs : List (Nat × Ce)} {pend : List Nat} (w : Wf cs pend) (i : Nat) (hi : 0 < cc cs i) : (ce cs i).kind = 1 ∨ (ce cs i).kind = 2 := by
  rcases w.tr i hi with h | h
  · exact .inl h.kind
  · exact .inr h.kind

theorem side_fit {cs : List (Nat × Ce)} {pend : List Nat} (w : Wf cs pend) {h d : Nat} {b : Int} (m : mayP cs (h : Int)) (hf : fsP (sdC cs h) d b = true) : SideOk cs d b h := by
  rcases m.side with e | ⟨h1, h2, h3⟩
  · exact .inl e
  · refine .inr ⟨h1, h2, ?_⟩
    unfold sdC at hf
    rw [if_neg (by omega)] at hf
    unfold fsP at hf
    rcases w.kinds _ h2 with k | k
    · rw [if_pos k] at hf
      exact ⟨by simpa using hf, .inl k⟩
    · rw [if_neg (by omega), if_pos k] at hf
      simp only [Bool.and_eq_true, decide_eq_true_eq] at hf
      exact ⟨hf.2, .inr ⟨k, hf.1⟩⟩

theorem kind0 {cs : List (Nat × Ce)} {pend : List Nat} (w : Wf cs pend) {h : Nat} (m : mayP cs (h : Int)) : (sdC cs h).kind = 0 ↔ h = 0 := by
  constructor
  · intro e
    rcases m.side with e2 | ⟨h1, h2, h3⟩
    · exact e2
    · unfold sdC at e
      rw [if_neg (by omega)] at e
      rcases w.kinds _ h2 with k | k <;> omega
  · rintro rfl
    rfl

theorem inn_ok {cs : List (Nat × Ce)} {pend : List Nat} (w : Wf cs pend) {d l r : Nat} {K : List Int} {u : Bool} (hd : d < 256) (ml : mayP cs (l : Int)) (mr : mayP cs (r : Int)) (hu : u = true ↔ Und (sdC cs l).key (sdC cs r).key (d : Int)) (hf : fitP d (sdC cs l) (sdC cs r) u = true) (hK : IsFill (if (sdC cs l).kind = 0 then (sdC cs r).key else (sdC cs l).key) d 0 K) : InnOk cs (inC (inD (sdD cs l) (sdD cs r)) K ((sdC cs l).sz + (sdC cs r).sz) d l r) := by
  unfold fitP at hf
  simp only [Bool.and_eq_true, Bool.or_eq_true, decide_eq_true_eq] at hf
  obtain ⟨h1, h2, h3, h4⟩ := hf
  refine ⟨rfl, hd, rfl, rfl, side_fit w ml h2, side_fit w mr h3, rfl, h1, fun hl hr => ?_, ?_, rfl⟩
  · rcases h4 with h4 | h4 | h4
    · exact absurd ((kind0 w ml).1 h4) hl
    · exact absurd ((kind0 w mr).1 h4) hr
    · exact hu.1 h4
  · by_cases e : l = 0
    · have := (kind0 w ml).2 e
      rw [if_pos this] at hK
      show IsFill (if l = 0 then _ else _) d 0 K
      rw [if_pos e]
      exact hK
    · have : ¬ (sdC cs l).kind = 0 := fun q => e ((kind0 w ml).1 q)
      rw [if_neg this] at hK
      show IsFill (if l = 0 then _ else _) d 0 K
      rw [if_neg e]
      exact hK

theorem mayP.own {cs : List (Nat × Ce)} {h : Nat} (m : mayP cs (h : Int)) (h0 : h ≠ 0) : 0 < Go.Proofs.YtjikgagaalbaeaaGreatDoor.own cs [] (h - 1) := by
  rcases m.side with e | ⟨_, _, e⟩
  · exact absurd e h0
  · unfold Go.Proofs.YtjikgagaalbaeaaGreatDoor.own
    rw [List.count_nil]
    omega

theorem hw_inner {w0 w : World} {g gs room : Nat} {cs : List (Nat × Ce)} {fr : List Nat} (h : Hw w0 w g gs room cs fr) (d l r : Nat) (hd : d < 256) (hml : mayP cs (l : Int)) (hmr : mayP cs (r : Int)) (u : Bool) (hu : u = true ↔ Und (sdC cs l).key (sdC cs r).key (d : Int)) (hf : fitP d (sdC cs l) (sdC cs r) u = true) (hL : Laid w) (hfu : ¬ Full room cs fr) : Calls Tryz.prog 27 #[.pointer (some ⟨g, 0, none⟩), .int .i64 (d : Int), .int .i64 (l : Int), .int .i64 (r : Int)] w fun e w' => ∃ K, IsFill (if (sdC cs l).kind = 0 then (sdC cs r).key else (sdC cs l).key) d 0 K ∧ e = .returned (.tuple #[.int .i64 (tkH cs fr : Int), .int .i64 0]) ∧ Hw w0 w' g gs room (upA (upA (tkC cs fr (1, inC (inD (sdD cs l) (sdD cs r)) K ((sdC cs l).sz + (sdC cs r).sz) d l r)) l) r) fr.dropLast := by
  obtain ⟨⟨vp, vf, h1, h2, h3⟩, h4⟩ := h
  refine (innerS_ok h1 h4 d l r hd hml hmr u hu hf hL hfu).mono ?_
  rintro e w' ⟨K, hK, rfl, t⟩
  have tk := (tk_of (frOk_inv h1.sl.inv) (1, inC (inD (sdD cs l) (sdD cs r)) K ((sdC cs l).sz + (sdC cs r).sz) d l r)).2
  exact ⟨K, hK, rfl, Hw.turn h2 h3 t (h4.inner tk (inn_ok h4 hd hml hmr hu hf hK) ⟨dig_length _, dig_bytes _, hK.1, none, 0, rfl⟩ rfl hml.own hmr.own)⟩

theorem hw_inner_full {w0 w : World} {g gs room : Nat} {cs : List (Nat × Ce)} {fr : List Nat} (h : Hw w0 w g gs room cs fr) (d l r : Nat) (hd : d < 256) (hml : mayP cs (l : Int)) (hmr : mayP cs (r : Int)) (u : Bool) (hu : u = true ↔ Und (sdC cs l).key (sdC cs r).key (d : Int)) (hf : fitP d (sdC cs l) (sdC cs r) u = true) (hL : Laid w) (hfu : Full room cs fr) : Calls Tryz.prog 27 #[.pointer (some ⟨g, 0, none⟩), .int .i64 (d : Int), .int .i64 (l : Int), .int .i64 (r : Int)] w fun e w' => e = .returned (.tuple #[.int .i64 0, .int .i64 9]) ∧ Hw w0 w' g gs room cs fr := by
  have hh := h
  obtain ⟨⟨vp, vf, h1, h2, h3⟩, h4⟩ := h
  exact (innerS_full h1 h4 d l r hd hml hmr u hu hf hL hfu).mono fun e w' ⟨e1, b⟩ => ⟨e1, hh.grow b⟩
theorem hw_inner_unfit {w0 w : World} {g gs room : Nat} {cs : List (Nat × Ce)} {fr : List Nat} (h : Hw w0 w g gs room cs fr) (d l r : Nat) (hd : d < 256) (hml : mayP cs (l : Int)) (hmr : mayP cs (r : Int)) (u : Bool) (hu : u = true ↔ Und (sdC cs l).key (sdC cs r).key (d : Int)) (hf : fitP d (sdC cs l) (sdC cs r) u = false) : Calls Tryz.prog 27 #[.pointer (some ⟨g, 0, none⟩), .int .i64 (d : Int), .int .i64 (l : Int), .int .i64 (r : Int)] w fun e w' => e = .returned (.tuple #[.int .i64 0, .int .i64 2]) ∧ Hw w0 w' g gs room cs fr := by
  have hh := h
  obtain ⟨⟨vp, vf, h1, h2, h3⟩, h4⟩ := h
  exact (innerS_unfit h1 h4 d l r hd hml hmr u hu hf).mono fun e w' ⟨e1, b⟩ => ⟨e1, hh.grow b⟩
theorem hw_inner_miss {w0 w : World} {g gs room : Nat} {cs : List (Nat × Ce)} {fr : List Nat} (h : Hw w0 w g gs room cs fr) (d : Nat) (l r : Int) (hd : d < 256) (hm : ¬ (mayP cs l ∧ mayP cs r)) : Calls Tryz.prog 27 #[.pointer (some ⟨g, 0, none⟩), .int .i64 (d : Int), .int .i64 l, .int .i64 r] w fun e w' => e = .returned (.tuple #[.int .i64 0, .int .i64 7]) ∧ Hw w0 w' g gs room cs fr := by
  have hh := h
  obtain ⟨⟨vp, vf, h1, h2, h3⟩, h4⟩ := h
  exact (innerS_miss h1 h4 d l r hd hm).mono fun e w' ⟨e1, b⟩ => ⟨e1, hh.grow b⟩
theorem hw_inner_arg {w0 w : World} {g gs room : Nat} {cs : List (Nat × Ce)} {fr : List Nat} (h : Hw w0 w g gs room cs fr) (d l r : Int) (hd : d < 0 ∨ 256 ≤ d) : Calls Tryz.prog 27 #[.pointer (some ⟨g, 0, none⟩), .int .i64 d, .int .i64 l, .int .i64 r] w fun e w' => e = .returned (.tuple #[.int .i64 0, .int .i64 2]) ∧ Hw w0 w' g gs room cs fr := by
  have hh := h
  obtain ⟨⟨vp, vf, h1, h2, h3⟩, h4⟩ := h
  exact (innerS_arg h1 d l r hd).mono fun e w' ⟨e1, b⟩ => ⟨e1, hh.grow b⟩

theorem hw_hold {w0 w : World} {g gs room : Nat} {cs : List (Nat × Ce)} {fr : List Nat} (h : Hw w0 w g gs room cs fr) (i : Nat) (hc : 0 < cc cs i) (hm : cc cs i < 1073741824) : Calls Tryz.prog 25 #[.pointer (some ⟨g, 0, none⟩), .int .i64 ((i : Int) + 1)] w fun e w' => e = .returned (.int .i64 0) ∧ Hw w0 w' g gs room (moreC cs i) fr := by
  obtain ⟨⟨vp, vf, h1, h2, h3⟩, h4⟩ := h
  refine (holdS_ok h1 i hc hm).mono ?_
  rintro e w' ⟨rfl, t⟩
  exact ⟨rfl, Hw.turn h2 h3 t (h4.more i hc)⟩
theorem hw_hold_bad {w0 w : World} {g gs room : Nat} {cs : List (Nat × Ce)} {fr : List Nat} (h : Hw w0 w g gs room cs fr) (q : Int) (hc : cot cs q = 0) : Calls Tryz.prog 25 #[.pointer (some ⟨g, 0, none⟩), .int .i64 q] w fun e w' => e = .returned (.int .i64 7) ∧ Hw w0 w' g gs room cs fr := by
  have hh := h
  obtain ⟨⟨vp, vf, h1, h2, h3⟩, h4⟩ := h
  exact (holdS_bad h1 q hc).mono fun e w' ⟨e1, b⟩ => ⟨e1, b ▸ hh⟩
theorem hw_hold_long {w0 w : World} {g gs room : Nat} {cs : List (Nat × Ce)} {fr : List Nat} (h : Hw w0 w g gs room cs fr) (i : Nat) (hc : cc cs i = 1073741824) : Calls Tryz.prog 25 #[.pointer (some ⟨g, 0, none⟩), .int .i64 ((i : Int) + 1)] w fun e w' => e = .returned (.int .i64 4) ∧ Hw w0 w' g gs room cs fr := by
  have hh := h
  obtain ⟨⟨vp, vf, h1, h2, h3⟩, h4⟩ := h
  exact (holdS_long h1 i hc).mono fun e w' ⟨e1, b⟩ => ⟨e1, b ▸ hh⟩

theorem hw_drop {w0 w : World} {g gs room : Nat} {cs : List (Nat × Ce)} {fr : List Nat} (h : Hw w0 w g gs room cs fr) (i : Nat) (ho : 0 < own cs [] i) : Calls Tryz.prog 29 #[.pointer (some ⟨g, 0, none⟩), .int .i64 ((i + 1 : Nat) : Int)] w fun e w' => ∃ cs' fr' n, Run cs fr [i + 1] cs' fr' n ∧ Step cs [i + 1] cs' [] n ∧ e = .returned (.tuple #[.int .i64 (n : Int), .int .i64 0]) ∧ Hw w0 w' g gs room cs' fr' := by
  obtain ⟨⟨vp, vf, h1, h2, h3⟩, h4⟩ := h
  refine (dropS_ok h1 h4 i ho).mono ?_
  rintro e w' ⟨cs', fr', n, hr, rfl, t⟩
  have st := hr.step (h4.less i ho)
  exact ⟨cs', fr', n, hr, st, rfl, Hw.turn h2 h3 t st.wf⟩
theorem hw_drop_miss {w0 w : World} {g gs room : Nat} {cs : List (Nat × Ce)} {fr : List Nat} (h : Hw w0 w g gs room cs fr) (q : Int) (hm : cot cs q ≤ (cat cs q).ab) : Calls Tryz.prog 29 #[.pointer (some ⟨g, 0, none⟩), .int .i64 q] w fun e w' => e = .returned (.tuple #[.int .i64 0, .int .i64 7]) ∧ Hw w0 w' g gs room cs fr := by
  have hh := h
  obtain ⟨⟨vp, vf, h1, h2, h3⟩, h4⟩ := h
  exact (dropS_miss h1 h4 q hm).mono fun e w' ⟨e1, b⟩ => ⟨e1, hh.grow b⟩

theorem hw_occ {w0 w : World} {g gs room : Nat} {cs : List (Nat × Ce)} {fr : List Nat} (h : Hw w0 w g gs room cs fr) : Calls Tryz.prog 32 #[.pointer (some ⟨g, 0, none⟩)] w fun e w' => e = .returned (.int .i64 (noc cs : Int)) ∧ Below w.heap.size w w' := by
  obtain ⟨⟨vp, vf, h1, h2, h3⟩, h4⟩ := h
  exact occS_ok h1
theorem hw_hnd {w0 w : World} {g gs room : Nat} {cs : List (Nat × Ce)} {fr : List Nat} (h : Hw w0 w g gs room cs fr) : Calls Tryz.prog 11 #[.pointer (some ⟨g, 0, none⟩)] w fun e w' => ∃ a c, e = .returned (.slice a (slotsOf (cs.map pl)).length c) ∧ w'.ownsRow w.heap.size 3 1 (.slice a (slotsOf (cs.map pl)).length c) (slotsOf (cs.map pl)).length (nats (slotsOf (cs.map pl))) ∧ Below w.heap.size w w' := by
  obtain ⟨⟨vp, vf, h1, h2, h3⟩, h4⟩ := h
  exact hndS_ok h1

end Go.Proofs.YtjikgagaalbaeaaGreatDoor

/- The document's examples that every law asks (awake), as a contract. -/
namespace Go.Proofs.YtjikgagaalbaeaaGreatDoor
set_option maxRecDepth 20000
open Go.RowKit

/-- The key whose first byte is b, all others 0. -/
def kyB (b : Int) : List Int := b :: List.replicate 31 0
theorem kyB_key (b : Int) (h0 : 0 ≤ b) (h1 : b ≤ 255) : Key (kyB b) := ⟨by simp [kyB], fun z hz => by
  rcases List.mem_cons.1 hz with rfl | hz
  · exact ⟨h0, h1⟩
  · rw [List.eq_of_mem_replicate hz]
    omega⟩

theorem built_ky (b : Int) : Tryz.prog.built 31 [(0, .int .u8 b)] = some (B (kyB b)) := by kernel_rfl

set_option maxHeartbeats 400000 in
theorem lawkey_any (b : Int) (w : World) : Calls Tryz.prog 38 #[.int .u8 b] w fun e w' => e = .returned (.agg (B (kyB b))) ∧ Below w.heap.size w w' := by
  have HZ : Hid ((B (kyB b)).size = 32) := by show _ = _; rw [B_size]; simp [kyB]
  have HB := hidden (built_ky b)
  generalize kyB b = K at HZ HB ⊢
  go_enter Tryz.func38, Tryz.ntmps38
  go_wp2_with (first
    | ((with_reducible refine at_ald 2 ?_); refine wpList_al _ rfl _ rfl _ zero_path ?_; intro w1 b2 hg2 hl2 B2 b1; have HB2 := hidden B2; have Hg2 := hidden hg2; clear B2 hg2 hl2)
    | ((with_reducible refine at_bdd 4 ?_); refine wpList_bld _ rfl _ _ rfl _ (by rw [List.map_toArray]; exact HB.out) ?_)
    | ((with_reducible refine at_st 2 ?_); refine wpList_sto _ rfl _ _ _ rfl b2 _ (B K) rfl rfl HB2.out (by rw [HZ.out]; exact size_path) (by rw [HZ.out, B_size]; simp) (B_one _) ?_; intro w3 B5 g3))
  exact bodyPost_ret (v := .agg (B K)) (results_cell_row rfl _ _ b2 _ _ _ _ rfl B5 Tryz.underlying31 rfl (by rw [HZ.out]; exact size_path)) rfl ⟨rfl, below_row b1 g3 Hg2.out⟩

theorem und0 (xs ys : List Int) : Und xs ys ((0 : Nat) : Int) := ⟨by omega, by omega, fun j hj => by omega⟩

set_option maxHeartbeats 4000000 in
theorem awake_any (w : World) (hL : Laid w) : Calls Tryz.prog 9 #[] w fun e w' => e = .returned (.bool true) ∧ Below w.heap.size w w' := by
  have HL : Hid (∀ w', Below w.heap.size w w' → Laid w') := fun w' hb => hL.grow hb
  have HN := hidden (hw_new 4 w w (Below.refl _ _) (by omega) (by omega))
  have k0 := kyB_key 0 (by omega) (by omega)
  have k1 := kyB_key 128 (by omega) (by omega)
  have e0 : kb (kyB 0) 0 = 0 := by decide
  have e1 : kb (kyB 128) 0 = 1 := by decide
  have HK0 : Hid (∀ w', Calls Tryz.prog 38 #[.int .u8 0] w' fun e w'' => e = .returned (.agg (B (kyB 0))) ∧ Below w'.heap.size w' w'') := fun w' => lawkey_any 0 w'
  have HK1 : Hid (∀ w', Calls Tryz.prog 38 #[.int .u8 128] w' fun e w'' => e = .returned (.agg (B (kyB 128))) ∧ Below w'.heap.size w' w'') := fun w' => lawkey_any 128 w'
  generalize kyB 0 = K0 at k0 e0 HK0
  generalize kyB 128 = K1 at k1 e1 HK1
  have H1 : Hid (∀ w' g gs, Hw w w' g gs 4 [] [] → Calls Tryz.prog 21 #[.pointer (some ⟨g, 0, none⟩), .agg (B K0), .slice none 0 0] w' fun e w'' => ∃ v', e = .returned (.tuple #[.int .i64 1, .int .i64 0]) ∧ Hw w w'' g gs 4 [(1, lfC (lfD K0 (vaD [])) K0 v' [])] []) := fun w' g gs h => hw_leaf h K0 _ [] (Reads.nil _) k0 (hL.grow h.low) (by simp) (fun f => by have := f.2; simp at this)
  have H2 : Hid (∀ w' g gs x, Hw w w' g gs 4 [(1, lfC (lfD K0 (vaD [])) K0 x [])] [] → Calls Tryz.prog 21 #[.pointer (some ⟨g, 0, none⟩), .agg (B K1), .slice none 0 0] w' fun e w'' => ∃ v', e = .returned (.tuple #[.int .i64 2, .int .i64 0]) ∧ Hw w w'' g gs 4 [(1, lfC (lfD K0 (vaD [])) K0 x []), (1, lfC (lfD K1 (vaD [])) K1 v' [])] []) := fun w' g gs x h => hw_leaf h K1 _ [] (Reads.nil _) k1 (hL.grow h.low) (by simp) (fun f => by have := f.2; simp at this)
  have H3 : Hid (∀ w' g gs x y, Hw w w' g gs 4 [(1, lfC (lfD K0 (vaD [])) K0 x []), (1, lfC (lfD K1 (vaD [])) K1 y [])] [] → Calls Tryz.prog 27 #[.pointer (some ⟨g, 0, none⟩), .int .i64 0, .int .i64 1, .int .i64 2] w' fun e w'' => e = .returned (.tuple #[.int .i64 3, .int .i64 0]) ∧ ∃ cs, Hw w w'' g gs 4 cs [] ∧ cot cs 1 = 1 ∧ (cat cs 1).ab = 1 ∧ cot cs 3 = 1 ∧ (cat cs 3).ab = 0 ∧ (cat cs 3).sz = 2) := by
    intro w' g gs x y h
    have := hw_inner h 0 1 2 (by omega) (.inr Nat.zero_lt_one) (.inr Nat.zero_lt_one) true ⟨fun _ => und0 _ _, fun _ => rfl⟩ (by
      show (decide (2 ≤ 1 + 1) && (fsP (lfC _ K0 x []) 0 0 && (fsP (lfC _ K1 y []) 0 1 && (decide ((1 : Int) = 0) || (decide ((1 : Int) = 0) || true))))) = true
      have f0 : fsP (lfC (lfD K0 (vaD [])) K0 x []) 0 0 = true := by simp [fsP, lfC, e0]
      have f1 : fsP (lfC (lfD K1 (vaD [])) K1 y []) 0 1 = true := by simp [fsP, lfC, e1]
      rw [f0, f1]
      rfl) (hL.grow h.low) (fun f => by have := f.2; simp at this)
    refine this.mono ?_
    rintro e w'' ⟨K, hK, rfl, hh⟩
    exact ⟨rfl, _, hh, rfl, rfl, rfl, rfl, rfl⟩
  clear hL k0 k1 e0 e1
  go_enter Tryz.func9, Tryz.ntmps9
  go_wp2_with (first
    | (go_at_call 5; refine HN.out.mono ?_; rintro e w1 ⟨g, gs, rfl, h1⟩; have HH1 := hidden h1; clear h1)
    | (go_at_call 38; have mk := m2; clear mk; refine (HK1.out _).mono ?_; rintro e w4 ⟨rfl, b4⟩; have HH4 := hidden (HH3.out.grow b4); clear b4)
    | (go_at_call 38; refine (HK0.out _).mono ?_; rintro e w2 ⟨rfl, b2⟩; have HH2 := hidden (HH1.out.grow b2); clear b2)
    | (go_at_call 21; have mk := m2; clear mk; refine (H2.out _ _ _ _ HH4.out).mono ?_; rintro e w5 ⟨v5, rfl, h5⟩; have HH5 := hidden h5; clear h5)
    | (go_at_call 21; refine (H1.out _ _ _ HH2.out).mono ?_; rintro e w3 ⟨v3, rfl, h3⟩; have HH3 := hidden h3; have m2 : Hid True := trivial; clear h3)
    | (go_at_call 27; refine (H3.out _ _ _ _ _ HH5.out).mono ?_; rintro e w6 ⟨rfl, cs, h6, q1, q2, q3, q4, q5⟩; have HH6 := hidden h6; have HC1 := hidden (h6.vw.count _ 1 (Below.refl _ _)); rw [q1] at HC1; have HQ1 := hidden (held_any h6.vw 1); rw [q1, q2] at HQ1; have HQ3 : Hid (∀ w', Hw w w' g gs 4 cs [] → Calls Tryz.prog 40 #[.pointer (some ⟨g, 0, none⟩), .int .i64 3] w' fun e w'' => e = .returned (.int .i64 1) ∧ Below w'.heap.size w' w'') := (by intro w' h; have := held_any h.vw 3; rwa [q3, q4] at this); have HZ3 : Hid (∀ w', Hw w w' g gs 4 cs [] → Calls Tryz.prog 16 #[.pointer (some ⟨g, 0, none⟩), .int .i64 3] w' fun e w'' => e = .returned (.int .i64 2) ∧ Below w'.heap.size w' w'') := (by intro w' h; have := size_any h.vw 3; rwa [q5] at this); clear h6 q1 q2 q3 q4 q5)
    | (go_at_call 39; refine HC1.out.mono ?_; rintro e w' ⟨rfl, hx⟩; rw [hx]; clear hx w')
    | (go_at_call 40; have mk := m3; clear mk; refine (HQ3.out _ HH7.out).mono ?_; rintro e w8 ⟨rfl, b8⟩; have HH8 := hidden (HH7.out.grow b8); clear b8)
    | (go_at_call 40; refine HQ1.out.mono ?_; rintro e w7 ⟨rfl, b7⟩; have HH7 := hidden (HH6.out.grow b7); have m3 : Hid True := trivial; clear b7)
    | (go_at_call 16; refine (HZ3.out _ HH8.out).mono ?_; rintro e w9 ⟨rfl, b9⟩; have HH9 := hidden (HH8.out.grow b9); clear b9))
  go_ret
  exact ⟨rfl, HH9.out.low⟩

end Go.Proofs.YtjikgagaalbaeaaGreatDoor
