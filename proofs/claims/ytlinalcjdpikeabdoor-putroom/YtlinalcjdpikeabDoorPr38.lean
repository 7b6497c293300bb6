/- A store that a walk keeps, beside blocks that it never touches: each call of it, and what stays. -/
import Derived.Test.YtlinalcjdpikeabDoorPr37
import Derived.Test.YtlinalcjdpikeabDoorPr30
import Derived.Test.YtlinalcjdpikeabDoorPr31
namespace Go.Proofs.YtlinalcjdpikeabDoor
set_option maxRecDepth 20000
open Go.RowKit

/-- The store at g holds these nodes; since w0 only its own blocks S and new ones turned. -/
def Hs (w0 : World) (S : List Nat) (w : World) (g gs room : Nat) (cs : List (Nat × Ce)) (fr : List Nat) : Prop := STurn w0 g gs S room cs fr w ∧ Wf cs []

section
variable {w0 w : World} {S : List Nat} {g gs room : Nat} {cs : List (Nat × Ce)} {fr : List Nat}

theorem Hs.here {vp vf : Value} (s : Stm w g gs vp vf room cs fr) (W : Wf cs []) : Hs w (stB g gs vp vf cs) w g gs room cs fr := ⟨STurn.refl (Below.refl _ _) s, W⟩
theorem Hs.mod (h : Hs w0 S w g gs room cs fr) : Mod S w0 w := by obtain ⟨⟨_, _, _, m, _⟩, _⟩ := h; exact m
theorem Hs.kq {P : World → Prop} (h : Hs w0 S w g gs room cs fr) (k : Kq S w0 P) : P w := k w h.mod
theorem Hs.grow {w' : World} (h : Hs w0 S w g gs room cs fr) (hb : Below w.heap.size w w') : Hs w0 S w' g gs room cs fr := by
  obtain ⟨t, W⟩ := h
  exact ⟨t.trans fun vp vf s => STurn.refl hb (s.grow hb), W⟩
theorem Hs.vw (h : Hs w0 S w g gs room cs fr) : Vw w (.pointer (some ⟨g, 0, none⟩)) true (cot cs) (cat cs) := by
  obtain ⟨⟨vp, vf, s, _, _⟩, W⟩ := h
  exact vw_ok s W
theorem Hs.inv (h : Hs w0 S w g gs room cs fr) : Inv room (cs.map pl) fr := by
  obtain ⟨⟨vp, vf, s, _, _⟩, W⟩ := h
  exact s.sl.inv
theorem Hs.frok (h : Hs w0 S w g gs room cs fr) : FrOk cs fr := frOk_inv h.inv
theorem Hs.free (h : Hs w0 S w g gs room cs fr) (hn : noc cs < room) : ¬ Full room cs fr := fun f => by
  have := h.inv.sum
  rw [f.1, List.length_map] at this
  have := f.2
  unfold noc at hn
  simp at *
  omega
/-- The same, seen from a later world. -/
theorem Hs.from (h : Hs w0 S w g gs room cs fr) : ∃ S', Hs w S' w g gs room cs fr ∧ New S w0 S' ∧ (∀ P : World → Prop, Kq S w0 P → Kq S' w P) ∧ (∀ k ∈ S', k < w.heap.size) ∧ ∀ w' cs' fr', Hs w S' w' g gs room cs' fr' → Hs w0 S w' g gs room cs' fr' := by
  obtain ⟨⟨vp, vf, s, m, n⟩, W⟩ := h
  refine ⟨stB g gs vp vf cs, Hs.here s W, n, fun P k => k.turn m n, s.lts, fun w' cs' fr' k => ⟨?_, k.2⟩⟩
  obtain ⟨vp', vf', s', m', n'⟩ := k.1
  exact ⟨vp', vf', s', m.trans n m', n.trans m.size n'⟩

theorem hs_hold (h : Hs w0 S w g gs room cs fr) (i : Nat) (hc : 0 < cc cs i) (hm : cc cs i < 1073741824) : Calls Tryd.prog 38 #[.pointer (some ⟨g, 0, none⟩), .int .i64 ((i : Int) + 1)] w fun e w' => e = .returned (.int .i64 0) ∧ Hs w0 S w' g gs room (moreC cs i) fr := by
  obtain ⟨t, W⟩ := h
  obtain ⟨vp, vf, s, m, n⟩ := t
  refine (holdS_ok s i hc hm).mono ?_
  rintro e w' ⟨rfl, t'⟩
  obtain ⟨vp', vf', s', m', n'⟩ := t'
  exact ⟨rfl, ⟨vp', vf', s', m.trans n m', n.trans m.size n'⟩, W.more i hc⟩
theorem hs_hold_bad (h : Hs w0 S w g gs room cs fr) (q : Int) (hc : cot cs q = 0) : Calls Tryd.prog 38 #[.pointer (some ⟨g, 0, none⟩), .int .i64 q] w fun e w' => e = .returned (.int .i64 7) ∧ Hs w0 S w' g gs room cs fr := by
  have hh := h
  obtain ⟨⟨vp, vf, s, m, n⟩, W⟩ := h
  exact (holdS_bad s q hc).mono fun e w' ⟨e1, b⟩ => ⟨e1, b ▸ hh⟩
theorem hs_leaf (h : Hs w0 S w g gs room cs fr) (K : List Int) (v : Value) (bs : List Int) (hr : Reads w v bs) (hK : Key K) (hL : Laid w) (hl : bs.length ≤ 1024) (hf : ¬ Full room cs fr) : Calls Tryd.prog 39 #[.pointer (some ⟨g, 0, none⟩), .agg (B K), v] w fun e w' => ∃ v', e = .returned (.tuple #[.int .i64 (tkH cs fr : Int), .int .i64 0]) ∧ CeOk (lfC (lfD K (vaD bs)) K v' bs) ∧ Hs w0 S w' g gs room (tkC cs fr (1, lfC (lfD K (vaD bs)) K v' bs)) fr.dropLast := by
  obtain ⟨⟨vp, vf, s, m, n⟩, W⟩ := h
  have hbs : Bytes bs := by obtain ⟨_, _, _, _, _, hb, _⟩ := hr; exact hb
  refine (leafS_ok s K v bs hr hK hL hl hf).mono ?_
  rintro e w' ⟨v', rfl, ok, t⟩
  have tk := (tk_of (frOk_inv s.sl.inv) (1, lfC (lfD K (vaD bs)) K v' bs)).2
  obtain ⟨vp', vf', s', m', n'⟩ := t
  exact ⟨v', rfl, ok, ⟨vp', vf', s', m.trans n m', n.trans m.size n'⟩, W.leaf tk (leaf_ok K v' bs hbs hl) ok rfl⟩
theorem hs_inner (h : Hs w0 S w g gs room cs fr) (d l r : Nat) (hd : d < 256) (hml : mayP cs (l : Int)) (hmr : mayP cs (r : Int)) (u : Bool) (hu : u = true ↔ Und (sdC cs l).key (sdC cs r).key (d : Int)) (hf : fitP d (sdC cs l) (sdC cs r) u = true) (hL : Laid w) (hfu : ¬ Full room cs fr) : Calls Tryd.prog 41 #[.pointer (some ⟨g, 0, none⟩), .int .i64 (d : Int), .int .i64 (l : Int), .int .i64 (r : Int)] w fun e w' => ∃ cs', InnR cs fr d l r cs' ∧ e = .returned (.tuple #[.int .i64 (tkH cs fr : Int), .int .i64 0]) ∧ Hs w0 S w' g gs room cs' fr.dropLast := by
  obtain ⟨⟨vp, vf, s, m, n⟩, W⟩ := h
  refine (innerS_ok s W d l r hd hml hmr u hu hf hL hfu).mono ?_
  rintro e w' ⟨K, hK, rfl, t⟩
  have tk := (tk_of (frOk_inv s.sl.inv) (1, inC (inD (sdD cs l) (sdD cs r)) K ((sdC cs l).sz + (sdC cs r).sz) d l r)).2
  obtain ⟨vp', vf', s', m', n'⟩ := t
  exact ⟨_, ⟨K, hK, rfl⟩, rfl, ⟨vp', vf', s', m.trans n m', n.trans m.size n'⟩, W.inner tk (inn_ok W hd hml hmr hu hf hK) ⟨dig_length _, dig_bytes _, hK.1, none, 0, rfl⟩ rfl hml.own hmr.own⟩
theorem hs_drop (h : Hs w0 S w g gs room cs fr) (i : Nat) (ho : 0 < own cs [] i) : Calls Tryd.prog 25 #[.pointer (some ⟨g, 0, none⟩), .int .i64 ((i + 1 : Nat) : Int)] w fun e w' => ∃ cs' fr' n, Run cs fr [i + 1] cs' fr' n ∧ Step cs [i + 1] cs' [] n ∧ e = .returned (.tuple #[.int .i64 (n : Int), .int .i64 0]) ∧ Hs w0 S w' g gs room cs' fr' := by
  obtain ⟨⟨vp, vf, s, m, n⟩, W⟩ := h
  refine (dropS_ok s W i ho).mono ?_
  rintro e w' ⟨cs', fr', k, hr, rfl, t⟩
  have st := hr.step (W.less i ho)
  obtain ⟨vp', vf', s', m', n'⟩ := t
  exact ⟨cs', fr', k, hr, st, rfl, ⟨vp', vf', s', m.trans n m', n.trans m.size n'⟩, st.wf⟩
theorem hs_drop_miss (h : Hs w0 S w g gs room cs fr) (q : Int) (hm : cot cs q ≤ (cat cs q).ab) : Calls Tryd.prog 25 #[.pointer (some ⟨g, 0, none⟩), .int .i64 q] w fun e w' => e = .returned (.tuple #[.int .i64 0, .int .i64 7]) ∧ Hs w0 S w' g gs room cs fr := by
  have hh := h
  obtain ⟨⟨vp, vf, s, m, n⟩, W⟩ := h
  exact (dropS_miss s W q hm).mono fun e w' ⟨e1, b⟩ => ⟨e1, hh.grow b⟩
theorem hs_occ (h : Hs w0 S w g gs room cs fr) : Calls Tryd.prog 8 #[.pointer (some ⟨g, 0, none⟩)] w fun e w' => e = .returned (.int .i64 (noc cs : Int)) ∧ Below w.heap.size w w' := by
  obtain ⟨⟨vp, vf, s, m, n⟩, W⟩ := h
  exact occS_ok s
theorem hs_room (h : Hs w0 S w g gs room cs fr) : Calls Tryd.prog 20 #[.pointer (some ⟨g, 0, none⟩)] w fun e w' => e = .returned (.int .i64 (room : Int)) ∧ Below w.heap.size w w' := by
  obtain ⟨⟨vp, vf, s, m, n⟩, W⟩ := h
  exact roomS_ok s
end

end Go.Proofs.YtlinalcjdpikeabDoor

/- What a store tells as a node by digests (Node), as a contract. -/
namespace Go.Proofs.YtlinalcjdpikeabDoor
set_option maxRecDepth 20000
open Go.RowKit

/-- What Node answers. -/
def vNd (mk : Bool) (ca : Int → Ce) (h : Int) : List Int := if (ca h).kind = 1 then nd 1 (ca h).key (vaD (ca h).bs) z32 z32 else if (ca h).kind = 2 then nd 2 z32 z32 (vDg mk ca ((ca h).l : Int)) (vDg mk ca ((ca h).r : Int)) else nd 0 z32 z32 z32 z32

theorem vNd_ok {w : World} {v : Value} {mk : Bool} {ct : Int → Nat} {ca : Int → Ce} (V : Vw w v mk ct ca) (h : Int) : (vNd mk ca h).length = 129 ∧ ∃ k a b c d, vNd mk ca h = nd k a b c d ∧ Nd k a b c d := by
  have z := z32_bytes
  have hq : ∃ k a b c d, vNd mk ca h = nd k a b c d ∧ Nd k a b c d := by
    unfold vNd
    split
    · exact ⟨_, _, _, _, _, rfl, by omega, by omega, (V.ok h).hk.1, dig_length _, rfl, rfl, (V.ok h).hk.2, dig_bytes _, z, z⟩
    · split
      · exact ⟨_, _, _, _, _, rfl, by omega, by omega, rfl, rfl, (vDg_len V _).1, (vDg_len V _).1, z, z, (vDg_len V _).2, (vDg_len V _).2⟩
      · exact ⟨_, _, _, _, _, rfl, by omega, by omega, rfl, rfl, rfl, rfl, z, z, z, z⟩
  obtain ⟨k, a, b, c, d, e, n⟩ := hq
  exact ⟨by rw [e]; exact n.length, k, a, b, c, d, e, n⟩

end Go.Proofs.YtlinalcjdpikeabDoor
