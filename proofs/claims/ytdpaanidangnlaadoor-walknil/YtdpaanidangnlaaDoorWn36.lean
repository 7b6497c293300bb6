/- A store that a walk keeps, in whatever blocks of the walk's own it lies, and each call of it. -/
import Derived.Test.YtdpaanidangnlaaDoorWn35
import Derived.Test.YtdpaanidangnlaaDoorWn02
namespace Go.Proofs.YtdpaanidangnlaaDoor
set_option maxRecDepth 20000
open Go.RowKit

/-- The store at g holds these nodes, all its blocks are new since w0, and nothing of w0 has turned. -/
def Hw (w0 w : World) (g gs room : Nat) (cs : List (Nat × Ce)) (fr : List Nat) : Prop := (∃ vp vf, Stm w g gs vp vf room cs fr ∧ (∀ k ∈ stB g gs vp vf cs, w0.heap.size ≤ k) ∧ Below w0.heap.size w0 w) ∧ Wf cs []

theorem Hw.low {w0 w : World} {g gs room : Nat} {cs : List (Nat × Ce)} {fr : List Nat} (h : Hw w0 w g gs room cs fr) : Below w0.heap.size w0 w := by
  obtain ⟨⟨_, _, _, _, h⟩, _⟩ := h
  exact h
theorem Hw.grow {w0 w w' : World} {g gs room : Nat} {cs : List (Nat × Ce)} {fr : List Nat} (h : Hw w0 w g gs room cs fr) (hb : Below w.heap.size w w') : Hw w0 w' g gs room cs fr := by
  obtain ⟨⟨vp, vf, h1, h2, h3⟩, h4⟩ := h
  exact ⟨⟨vp, vf, h1.grow hb, h2, grow_trans h3 hb⟩, h4⟩
theorem Hw.vw {w0 w : World} {g gs room : Nat} {cs : List (Nat × Ce)} {fr : List Nat} (h : Hw w0 w g gs room cs fr) : Vw w (.pointer (some ⟨g, 0, none⟩)) true (cot cs) (cat cs) := by
  obtain ⟨⟨vp, vf, h1, h2, h3⟩, h4⟩ := h
  exact vw_ok h1 h4
theorem Hw.inv {w0 w : World} {g gs room : Nat} {cs : List (Nat × Ce)} {fr : List Nat} (h : Hw w0 w g gs room cs fr) : Inv room (cs.map pl) fr := by
  obtain ⟨⟨vp, vf, h1, h2, h3⟩, h4⟩ := h
  exact h1.sl.inv
theorem Hw.turn {w0 w w' : World} {g gs room : Nat} {cs cs' : List (Nat × Ce)} {fr' : List Nat} {vp vf : Value} (h2 : ∀ k ∈ stB g gs vp vf cs, w0.heap.size ≤ k) (h3 : Below w0.heap.size w0 w) (t : STurn w g gs (stB g gs vp vf cs) room cs' fr' w') (hw : Wf cs' []) : Hw w0 w' g gs room cs' fr' := by
  obtain ⟨vp', vf', k1, k2, k3⟩ := t
  exact ⟨⟨vp', vf', k1, k3.base h2 h3.size, h3.trans (k2.below h2 h3.size)⟩, hw⟩

theorem hw_new (room : Nat) (w0 w : World) (hb : Below w0.heap.size w0 w) (h1 : 1 ≤ room) (h2 : room ≤ 65536) : Calls Tryd.prog 6 #[.int .i64 (room : Int)] w fun e w' => ∃ g gs, e = .returned (.tuple #[.pointer (some ⟨g, 0, none⟩), .int .i64 0]) ∧ Hw w0 w' g gs room [] [] := by
  refine (newS_ok room w h1 h2).mono ?_
  rintro e w' ⟨g, gs, rfl, hg, hgs, s, b⟩
  refine ⟨g, gs, rfl, ⟨_, _, s, fun k hk => ?_, grow_trans hb b⟩, Wf.new⟩
  have := hb.size
  rcases stB_mem.1 hk with rfl | hk | ⟨i, hk⟩
  · omega
  · rcases slB_mem.1 hk with rfl | hk | hk
    · omega
    · cases hk
    · cases hk
  · simp only [ce, List.getElem?_nil, Option.getD_none] at hk
    cases hk

theorem leaf_ok (K : List Int) (v : Value) (bs : List Int) (hb : Bytes bs) (hl : bs.length ≤ 1024) : LeafOk (lfC (lfD K (vaD bs)) K v bs) := ⟨rfl, rfl, rfl, rfl, rfl, rfl, hl, hb⟩

theorem hw_leaf {w0 w : World} {g gs room : Nat} {cs : List (Nat × Ce)} {fr : List Nat} (h : Hw w0 w g gs room cs fr) (K : List Int) (v : Value) (bs : List Int) (hr : Reads w v bs) (hK : Key K) (hL : Laid w) (hl : bs.length ≤ 1024) (hf : ¬ Full room cs fr) : Calls Tryd.prog 23 #[.pointer (some ⟨g, 0, none⟩), .agg (B K), v] w fun e w' => ∃ v', e = .returned (.tuple #[.int .i64 (tkH cs fr : Int), .int .i64 0]) ∧ Hw w0 w' g gs room (tkC cs fr (1, lfC (lfD K (vaD bs)) K v' bs)) fr.dropLast := by
  obtain ⟨⟨vp, vf, h1, h2, h3⟩, h4⟩ := h
  have hbs : Bytes bs := by obtain ⟨_, _, _, _, _, hb, _⟩ := hr; exact hb
  refine (leafS_ok h1 K v bs hr hK hL hl hf).mono ?_
  rintro e w' ⟨v', rfl, ok, t⟩
  have tk := (tk_of (frOk_inv h1.sl.inv) (1, lfC (lfD K (vaD bs)) K v' bs)).2
  exact ⟨v', rfl, Hw.turn h2 h3 t (h4.leaf tk (leaf_ok K v' bs hbs hl) ok rfl)⟩

theorem hw_leaf_full {w0 w : World} {g gs room : Nat} {cs : List (Nat × Ce)} {fr : List Nat} (h : Hw w0 w g gs room cs fr) (K : List Int) (v : Value) (bs : List Int) (hr : Reads w v bs) (hK : Key K) (hL : Laid w) (hl : bs.length ≤ 1024) (hf : Full room cs fr) : Calls Tryd.prog 23 #[.pointer (some ⟨g, 0, none⟩), .agg (B K), v] w fun e w' => e = .returned (.tuple #[.int .i64 0, .int .i64 9]) ∧ Hw w0 w' g gs room cs fr := by
  have hh := h
  obtain ⟨⟨vp, vf, h1, h2, h3⟩, h4⟩ := h
  exact (leafS_full h1 K v bs hr hK hL hl hf).mono fun e w' ⟨e1, b⟩ => ⟨e1, hh.grow b⟩

theorem hw_leaf_long {w0 w : World} {g gs room : Nat} {cs : List (Nat × Ce)} {fr : List Nat} (h : Hw w0 w g gs room cs fr) (K : List Int) (v : Value) (bs : List Int) (hr : Reads w v bs) (hK : Key K) (hl : 1024 < bs.length) (hm : bs.length ≤ 140737488355328) : Calls Tryd.prog 23 #[.pointer (some ⟨g, 0, none⟩), .agg (B K), v] w fun e w' => e = .returned (.tuple #[.int .i64 0, .int .i64 4]) ∧ Hw w0 w' g gs room cs fr := by
  have hh := h
  obtain ⟨⟨vp, vf, h1, h2, h3⟩, h4⟩ := h
  exact (leafS_long h1 K v bs hr hK hl hm).mono fun e w' ⟨e1, b⟩ => ⟨e1, hh.grow b⟩

/-! ### Sides that fit -/
theorem Wf.kinds {cs : List (Nat × Ce)} {pend : List Nat} (w : Wf cs pend) (i : Nat) (hi : 0 < cc cs i) : (ce cs i).kind = 1 ∨ (ce cs i).kind = 2 := by
  rcases w.tr i hi with h | h
  · exact .inl h.kind
  · exact .inr h.kind

theorem side_fit {cs : List (Nat × Ce)} {pend : List Nat} (w : Wf cs pend) {h d : Nat} {b : Int} (m : mayP cs (h : Int)) (hf : fsP (sdC cs h) d b = true) : SideOk cs d b h := by
  rcases m.side with e | ⟨h1, h2, h3⟩
  · exact .inl e
  · refine .inr ⟨h1, h2, ?_⟩
    unfold sdC at hf
    rw [if_neg (by omega)] at hf
    unfold fsP at hf
    rcases w.kinds _ h2 with k | k
    · rw [if_pos k] at hf
      exact ⟨by simpa using hf, .inl k⟩
    · rw [if_neg (by omega), if_pos k] at hf
      simp only [Bool.and_eq_true, decide_eq_true_eq] at hf
      exact ⟨hf.2, .inr ⟨k, hf.1⟩⟩

theorem kind0 {cs : List (Nat × Ce)} {pend : List Nat} (w : Wf cs pend) {h : Nat} (m : mayP cs (h : Int)) : (sdC cs h).kind = 0 ↔ h = 0 := by
  constructor
  · intro e
    rcases m.side with e2 | ⟨h1, h2, h3⟩
    · exact e2
    · unfold sdC at e
      rw [if_neg (by omega)] at e
      rcases w.kinds _ h2 with k | k <;> omega
  · rintro rfl
    rfl

theorem inn_ok {cs : List (Nat × Ce)} {pend : List Nat} (w : Wf cs pend) {d l r : Nat} {K : List Int} {u : Bool} (hd : d < 256) (ml : mayP cs (l : Int)) (mr : mayP cs (r : Int)) (hu : u = true ↔ Und (sdC cs l).key (sdC cs r).key (d : Int)) (hf : fitP d (sdC cs l) (sdC cs r) u = true) (hK : IsFill (if (sdC cs l).kind = 0 then (sdC cs r).key else (sdC cs l).key) d 0 K) : InnOk cs (inC (inD (sdD cs l) (sdD cs r)) K ((sdC cs l).sz + (sdC cs r).sz) d l r) := by
  unfold fitP at hf
  simp only [Bool.and_eq_true, Bool.or_eq_true, decide_eq_true_eq] at hf
  obtain ⟨h1, h2, h3, h4⟩ := hf
  refine ⟨rfl, hd, rfl, rfl, side_fit w ml h2, side_fit w mr h3, rfl, h1, fun hl hr => ?_, ?_, rfl⟩
  · rcases h4 with h4 | h4 | h4
    · exact absurd ((kind0 w ml).1 h4) hl
    · exact absurd ((kind0 w mr).1 h4) hr
    · exact hu.1 h4
  · by_cases e : l = 0
    · have := (kind0 w ml).2 e
      rw [if_pos this] at hK
      show IsFill (if l = 0 then _ else _) d 0 K
      rw [if_pos e]
      exact hK
    · have : ¬ (sdC cs l).kind = 0 := fun q => e ((kind0 w ml).1 q)
      rw [if_neg this] at hK
      show IsFill (if l = 0 then _ else _) d 0 K
      rw [if_neg e]
      exact hK

theorem mayP.own {cs : List (Nat × Ce)} {h : Nat} (m : mayP cs (h : Int)) (h0 : h ≠ 0) : 0 < Go.Proofs.YtdpaanidangnlaaDoor.own cs [] (h - 1) := by
  rcases m.side with e | ⟨_, _, e⟩
  · exact absurd e h0
  · unfold Go.Proofs.YtdpaanidangnlaaDoor.own
    rw [List.count_nil]
    omega

theorem hw_inner {w0 w : World} {g gs room : Nat} {cs : List (Nat × Ce)} {fr : List Nat} (h : Hw w0 w g gs room cs fr) (d l r : Nat) (hd : d < 256) (hml : mayP cs (l : Int)) (hmr : mayP cs (r : Int)) (u : Bool) (hu : u = true ↔ Und (sdC cs l).key (sdC cs r).key (d : Int)) (hf : fitP d (sdC cs l) (sdC cs r) u = true) (hL : Laid w) (hfu : ¬ Full room cs fr) : Calls Tryd.prog 24 #[.pointer (some ⟨g, 0, none⟩), .int .i64 (d : Int), .int .i64 (l : Int), .int .i64 (r : Int)] w fun e w' => ∃ K, IsFill (if (sdC cs l).kind = 0 then (sdC cs r).key else (sdC cs l).key) d 0 K ∧ e = .returned (.tuple #[.int .i64 (tkH cs fr : Int), .int .i64 0]) ∧ Hw w0 w' g gs room (upA (upA (tkC cs fr (1, inC (inD (sdD cs l) (sdD cs r)) K ((sdC cs l).sz + (sdC cs r).sz) d l r)) l) r) fr.dropLast := by
  obtain ⟨⟨vp, vf, h1, h2, h3⟩, h4⟩ := h
  refine (innerS_ok h1 h4 d l r hd hml hmr u hu hf hL hfu).mono ?_
  rintro e w' ⟨K, hK, rfl, t⟩
  have tk := (tk_of (frOk_inv h1.sl.inv) (1, inC (inD (sdD cs l) (sdD cs r)) K ((sdC cs l).sz + (sdC cs r).sz) d l r)).2
  exact ⟨K, hK, rfl, Hw.turn h2 h3 t (h4.inner tk (inn_ok h4 hd hml hmr hu hf hK) ⟨dig_length _, dig_bytes _, hK.1, none, 0, rfl⟩ rfl hml.own hmr.own)⟩

theorem hw_inner_full {w0 w : World} {g gs room : Nat} {cs : List (Nat × Ce)} {fr : List Nat} (h : Hw w0 w g gs room cs fr) (d l r : Nat) (hd : d < 256) (hml : mayP cs (l : Int)) (hmr : mayP cs (r : Int)) (u : Bool) (hu : u = true ↔ Und (sdC cs l).key (sdC cs r).key (d : Int)) (hf : fitP d (sdC cs l) (sdC cs r) u = true) (hL : Laid w) (hfu : Full room cs fr) : Calls Tryd.prog 24 #[.pointer (some ⟨g, 0, none⟩), .int .i64 (d : Int), .int .i64 (l : Int), .int .i64 (r : Int)] w fun e w' => e = .returned (.tuple #[.int .i64 0, .int .i64 9]) ∧ Hw w0 w' g gs room cs fr := by
  have hh := h
  obtain ⟨⟨vp, vf, h1, h2, h3⟩, h4⟩ := h
  exact (innerS_full h1 h4 d l r hd hml hmr u hu hf hL hfu).mono fun e w' ⟨e1, b⟩ => ⟨e1, hh.grow b⟩
theorem hw_inner_unfit {w0 w : World} {g gs room : Nat} {cs : List (Nat × Ce)} {fr : List Nat} (h : Hw w0 w g gs room cs fr) (d l r : Nat) (hd : d < 256) (hml : mayP cs (l : Int)) (hmr : mayP cs (r : Int)) (u : Bool) (hu : u = true ↔ Und (sdC cs l).key (sdC cs r).key (d : Int)) (hf : fitP d (sdC cs l) (sdC cs r) u = false) : Calls Tryd.prog 24 #[.pointer (some ⟨g, 0, none⟩), .int .i64 (d : Int), .int .i64 (l : Int), .int .i64 (r : Int)] w fun e w' => e = .returned (.tuple #[.int .i64 0, .int .i64 2]) ∧ Hw w0 w' g gs room cs fr := by
  have hh := h
  obtain ⟨⟨vp, vf, h1, h2, h3⟩, h4⟩ := h
  exact (innerS_unfit h1 h4 d l r hd hml hmr u hu hf).mono fun e w' ⟨e1, b⟩ => ⟨e1, hh.grow b⟩
theorem hw_inner_miss {w0 w : World} {g gs room : Nat} {cs : List (Nat × Ce)} {fr : List Nat} (h : Hw w0 w g gs room cs fr) (d : Nat) (l r : Int) (hd : d < 256) (hm : ¬ (mayP cs l ∧ mayP cs r)) : Calls Tryd.prog 24 #[.pointer (some ⟨g, 0, none⟩), .int .i64 (d : Int), .int .i64 l, .int .i64 r] w fun e w' => e = .returned (.tuple #[.int .i64 0, .int .i64 7]) ∧ Hw w0 w' g gs room cs fr := by
  have hh := h
  obtain ⟨⟨vp, vf, h1, h2, h3⟩, h4⟩ := h
  exact (innerS_miss h1 h4 d l r hd hm).mono fun e w' ⟨e1, b⟩ => ⟨e1, hh.grow b⟩
theorem hw_inner_arg {w0 w : World} {g gs room : Nat} {cs : List (Nat × Ce)} {fr : List Nat} (h : Hw w0 w g gs room cs fr) (d l r : Int) (hd : d < 0 ∨ 256 ≤ d) : Calls Tryd.prog 24 #[.pointer (some ⟨g, 0, none⟩), .int .i64 d, .int .i64 l, .int .i64 r] w fun e w' => e = .returned (.tuple #[.int .i64 0, .int .i64 2]) ∧ Hw w0 w' g gs room cs fr := by
  have hh := h
  obtain ⟨⟨vp, vf, h1, h2, h3⟩, h4⟩ := h
  exact (innerS_arg h1 d l r hd).mono fun e w' ⟨e1, b⟩ => ⟨e1, hh.grow b⟩

end Go.Proofs.YtdpaanidangnlaaDoor

/- What stands in every world that differs in some blocks alone; rows of any kind that are the call's own. -/
namespace Go.Proofs.YtdpaanidangnlaaDoor
set_option maxRecDepth 20000
open Go.RowKit

/-- P stands in every world that differs from w in the blocks S alone. -/
def Kq (S : List Nat) (w : World) (P : World → Prop) : Prop := ∀ w', Mod S w w' → P w'
theorem Kq.now {S : List Nat} {w : World} {P : World → Prop} (h : Kq S w P) : P w := h w (Mod.refl _ _)
theorem Kq.turn {S S1 : List Nat} {w w1 : World} {P : World → Prop} (h : Kq S w P) (m : Mod S w w1) (n : New S w S1) : Kq S1 w1 P := fun w' m' => h w' (m.trans n m')
theorem Kq.step {S : List Nat} {w w1 : World} {P : World → Prop} (h : Kq S w P) (m : Mod S w w1) : Kq S w1 P := h.turn m (New.refl _ _)
theorem Kq.grow {S : List Nat} {w w1 : World} {P : World → Prop} (h : Kq S w P) (b : Below w.heap.size w w1) : Kq S w1 P := h.step (Mod.of_below b S)
theorem Kq.imp {S : List Nat} {w : World} {P Q : World → Prop} (h : Kq S w P) (q : ∀ w', Mod S w w' → P w' → Q w') : Kq S w Q := fun w' m => q w' m (h w' m)
theorem Kq.blk {S : List Nat} {w : World} {g : Nat} {t : TypeId} {cs : Array Value} (h : Blk w g t cs) (hn : g ∉ S) : Kq S w (fun w' => Blk w' g t cs) := fun _ m => h.mod m hn
/-- What stands in all worlds that have but grown since b stands where only blocks from b on turn. -/
theorem Kq.of_low {S : List Nat} {w0 w : World} {P : World → Prop} (h : ∀ w', Below w0.heap.size w0 w' → P w') (hb : Below w0.heap.size w0 w) (hS : ∀ k ∈ S, w0.heap.size ≤ k) : Kq S w P := fun w' m => h w' (hb.trans (m.below hS hb.size))

theorem owR_mod {w w' : World} {base : Nat} {e : TypeId} {k : Nat} {v : Value} {n : Nat} {xs : List Value} {S : List Nat} (h : w.ownsRow base e k v n xs) (m : Mod S w w') (hn : ∀ g, v.ownBlock = some g → g ∉ S) : w'.ownsRow base e k v n xs := by
  refine ⟨h.1, ?_⟩
  rcases h.2 with hh | ⟨g, cap, cur, rfl, hb, hgg, rest⟩
  · exact .inl hh
  · exact .inr ⟨g, cap, cur, rfl, hb, (m.block g (Array.getElem?_eq_some_iff.1 hgg).1 (hn g rfl)).trans hgg, rest⟩
theorem owR_grow {w w' : World} {base : Nat} {e : TypeId} {k : Nat} {v : Value} {n : Nat} {xs : List Value} (h : w.ownsRow base e k v n xs) (hb : Below w.heap.size w w') : w'.ownsRow base e k v n xs := owR_mod h (Mod.of_below hb []) (fun _ _ h => by cases h)
theorem owR_base {w : World} {base base' : Nat} {e : TypeId} {k : Nat} {v : Value} {n : Nat} {xs : List Value} (h : w.ownsRow base e k v n xs) (hb : base' ≤ base) : w.ownsRow base' e k v n xs := by
  refine ⟨h.1, h.2.imp id ?_⟩
  rintro ⟨g, cap, cur, e1, e2, e3⟩
  exact ⟨g, cap, cur, e1, Nat.le_trans hb e2, e3⟩
theorem owR_lst {w : World} {base : Nat} {e : TypeId} {k : Nat} {v : Value} {n : Nat} {xs : List Value} (h : w.ownsRow base e k v n xs) : Lst w e k v n xs := ⟨h.1, h.2.imp id (fun ⟨g, cap, cur, a1, _, a3⟩ => ⟨g, cap, cur, a1, Nat.zero_le _, a3⟩)⟩
/-- A list of the call's own that grew leaves all below as it was. -/
theorem owR_below {w0 w w' : World} {base : Nat} {e : TypeId} {k : Nat} {v : Value} {n : Nat} {xs : List Value} (hb : Below w0.heap.size w0 w) (h : w.ownsRow base e k v n xs) (hl : w0.heap.size ≤ base) (hg : w.grownBy w' v.ownBlock) : Below w0.heap.size w0 w' := by
  have m : Mod v.ownBlock.toList w w' := Mod.of_grown hg (fun k hk => by simp [hk])
  refine hb.trans (m.below (fun k hk => ?_) hb.size)
  have := (h.lt k (by simpa using hk)).1
  omega

end Go.Proofs.YtdpaanidangnlaaDoor
