/- What stands in every world that differs in some blocks alone; rows of any kind that are the call's own. -/
import Derived.Test.YtlhnodinhmdjnaaGreatDoorVt01
import Derived.Test.YtlhnodinhmdjnaaGreatDoorVt25
import Derived.Test.YtlhnodinhmdjnaaGreatDoorVt21
namespace Go.Proofs.YtlhnodinhmdjnaaGreatDoor
set_option maxRecDepth 20000
open Go.RowKit

/-- P stands in every world that differs from w in the blocks S alone. -/
def Kq (S : List Nat) (w : World) (P : World → Prop) : Prop := ∀ w', Mod S w w' → P w'
theorem Kq.now {S : List Nat} {w : World} {P : World → Prop} (h : Kq S w P) : P w := h w (Mod.refl _ _)
theorem Kq.turn {S S1 : List Nat} {w w1 : World} {P : World → Prop} (h : Kq S w P) (m : Mod S w w1) (n : New S w S1) : Kq S1 w1 P := fun w' m' => h w' (m.trans n m')
theorem Kq.step {S : List Nat} {w w1 : World} {P : World → Prop} (h : Kq S w P) (m : Mod S w w1) : Kq S w1 P := h.turn m (New.refl _ _)
theorem Kq.grow {S : List Nat} {w w1 : World} {P : World → Prop} (h : Kq S w P) (b : Below w.heap.size w w1) : Kq S w1 P := h.step (Mod.of_below b S)
theorem Kq.imp {S : List Nat} {w : World} {P Q : World → Prop} (h : Kq S w P) (q : ∀ w', Mod S w w' → P w' → Q w') : Kq S w Q := fun w' m => q w' m (h w' m)
theorem Kq.blk {S : List Nat} {w : World} {g : Nat} {t : TypeId} {cs : Array Value} (h : Blk w g t cs) (hn : g ∉ S) : Kq S w (fun w' => Blk w' g t cs) := fun _ m => h.mod m hn
/-- What stands in all worlds that have but grown since b stands where only blocks from b on turn. -/
theorem Kq.of_low {S : List Nat} {w0 w : World} {P : World → Prop} (h : ∀ w', Below w0.heap.size w0 w' → P w') (hb : Below w0.heap.size w0 w) (hS : ∀ k ∈ S, w0.heap.size ≤ k) : Kq S w P := fun w' m => h w' (hb.trans (m.below hS hb.size))

theorem owR_mod {w w' : World} {base : Nat} {e : TypeId} {k : Nat} {v : Value} {n : Nat} {xs : List Value} {S : List Nat} (h : w.ownsRow base e k v n xs) (m : Mod S w w') (hn : ∀ g, v.ownBlock = some g → g ∉ S) : w'.ownsRow base e k v n xs := by
  refine ⟨h.1, ?_⟩
  rcases h.2 with hh | ⟨g, cap, cur, rfl, hb, hgg, rest⟩
  · exact .inl hh
  · exact .inr ⟨g, cap, cur, rfl, hb, (m.block g (Array.getElem?_eq_some_iff.1 hgg).1 (hn g rfl)).trans hgg, rest⟩
theorem owR_grow {w w' : World} {base : Nat} {e : TypeId} {k : Nat} {v : Value} {n : Nat} {xs : List Value} (h : w.ownsRow base e k v n xs) (hb : Below w.heap.size w w') : w'.ownsRow base e k v n xs := owR_mod h (Mod.of_below hb []) (fun _ _ h => by cases h)
theorem owR_base {w : World} {base base' : Nat} {e : TypeId} {k : Nat} {v : Value} {n : Nat} {xs : List Value} (h : w.ownsRow base e k v n xs) (hb : base' ≤ base) : w.ownsRow base' e k v n xs := by
  refine ⟨h.1, h.2.imp id ?_⟩
  rintro ⟨g, cap, cur, e1, e2, e3⟩
  exact ⟨g, cap, cur, e1, Nat.le_trans hb e2, e3⟩
theorem owR_lst {w : World} {base : Nat} {e : TypeId} {k : Nat} {v : Value} {n : Nat} {xs : List Value} (h : w.ownsRow base e k v n xs) : Lst w e k v n xs := ⟨h.1, h.2.imp id (fun ⟨g, cap, cur, a1, _, a3⟩ => ⟨g, cap, cur, a1, Nat.zero_le _, a3⟩)⟩
/-- A list of the call's own that grew leaves all below as it was. -/
theorem owR_below {w0 w w' : World} {base : Nat} {e : TypeId} {k : Nat} {v : Value} {n : Nat} {xs : List Value} (hb : Below w0.heap.size w0 w) (h : w.ownsRow base e k v n xs) (hl : w0.heap.size ≤ base) (hg : w.grownBy w' v.ownBlock) : Below w0.heap.size w0 w' := by
  have m : Mod v.ownBlock.toList w w' := Mod.of_grown hg (fun k hk => by simp [hk])
  refine hb.trans (m.below (fun k hk => ?_) hb.size)
  have := (h.lt k (by simpa using hk)).1
  omega

end Go.Proofs.YtlhnodinhmdjnaaGreatDoor

/- A store that a walk keeps, beside blocks that it never touches: each call of it, and what stays. -/
namespace Go.Proofs.YtlhnodinhmdjnaaGreatDoor
set_option maxRecDepth 20000
open Go.RowKit

/-- The store at g holds these nodes; since w0 only its own blocks S and new ones turned. -/
def Hs (w0 : World) (S : List Nat) (w : World) (g gs room : Nat) (cs : List (Nat × Ce)) (fr : List Nat) : Prop := STurn w0 g gs S room cs fr w ∧ Wf cs []

section
variable {w0 w : World} {S : List Nat} {g gs room : Nat} {cs : List (Nat × Ce)} {fr : List Nat}

theorem Hs.here {vp vf : Value} (s : Stm w g gs vp vf room cs fr) (W : Wf cs []) : Hs w (stB g gs vp vf cs) w g gs room cs fr := ⟨STurn.refl (Below.refl _ _) s, W⟩
theorem Hs.mod (h : Hs w0 S w g gs room cs fr) : Mod S w0 w := by obtain ⟨⟨_, _, _, m, _⟩, _⟩ := h; exact m
theorem Hs.kq {P : World → Prop} (h : Hs w0 S w g gs room cs fr) (k : Kq S w0 P) : P w := k w h.mod
theorem Hs.grow {w' : World} (h : Hs w0 S w g gs room cs fr) (hb : Below w.heap.size w w') : Hs w0 S w' g gs room cs fr := by
  obtain ⟨t, W⟩ := h
  exact ⟨t.trans fun vp vf s => STurn.refl hb (s.grow hb), W⟩
theorem Hs.vw (h : Hs w0 S w g gs room cs fr) : Vw w (.pointer (some ⟨g, 0, none⟩)) true (cot cs) (cat cs) := by
  obtain ⟨⟨vp, vf, s, _, _⟩, W⟩ := h
  exact vw_ok s W
theorem Hs.inv (h : Hs w0 S w g gs room cs fr) : Inv room (cs.map pl) fr := by
  obtain ⟨⟨vp, vf, s, _, _⟩, W⟩ := h
  exact s.sl.inv
theorem Hs.frok (h : Hs w0 S w g gs room cs fr) : FrOk cs fr := frOk_inv h.inv
theorem Hs.free (h : Hs w0 S w g gs room cs fr) (hn : noc cs < room) : ¬ Full room cs fr := fun f => by
  have := h.inv.sum
  rw [f.1, List.length_map] at this
  have := f.2
  unfold noc at hn
  simp at *
  omega
/-- The same, seen from a later world. -/
theorem Hs.from (h : Hs w0 S w g gs room cs fr) : ∃ S', Hs w S' w g gs room cs fr ∧ New S w0 S' ∧ (∀ P : World → Prop, Kq S w0 P → Kq S' w P) ∧ (∀ k ∈ S', k < w.heap.size) ∧ ∀ w' cs' fr', Hs w S' w' g gs room cs' fr' → Hs w0 S w' g gs room cs' fr' := by
  obtain ⟨⟨vp, vf, s, m, n⟩, W⟩ := h
  refine ⟨stB g gs vp vf cs, Hs.here s W, n, fun P k => k.turn m n, s.lts, fun w' cs' fr' k => ⟨?_, k.2⟩⟩
  obtain ⟨vp', vf', s', m', n'⟩ := k.1
  exact ⟨vp', vf', s', m.trans n m', n.trans m.size n'⟩

theorem hs_hold (h : Hs w0 S w g gs room cs fr) (i : Nat) (hc : 0 < cc cs i) (hm : cc cs i < 1073741824) : Calls Tryz.prog 96 #[.pointer (some ⟨g, 0, none⟩), .int .i64 ((i : Int) + 1)] w fun e w' => e = .returned (.int .i64 0) ∧ Hs w0 S w' g gs room (moreC cs i) fr := by
  obtain ⟨t, W⟩ := h
  obtain ⟨vp, vf, s, m, n⟩ := t
  refine (holdS_ok s i hc hm).mono ?_
  rintro e w' ⟨rfl, t'⟩
  obtain ⟨vp', vf', s', m', n'⟩ := t'
  exact ⟨rfl, ⟨vp', vf', s', m.trans n m', n.trans m.size n'⟩, W.more i hc⟩
theorem hs_hold_bad (h : Hs w0 S w g gs room cs fr) (q : Int) (hc : cot cs q = 0) : Calls Tryz.prog 96 #[.pointer (some ⟨g, 0, none⟩), .int .i64 q] w fun e w' => e = .returned (.int .i64 7) ∧ Hs w0 S w' g gs room cs fr := by
  have hh := h
  obtain ⟨⟨vp, vf, s, m, n⟩, W⟩ := h
  exact (holdS_bad s q hc).mono fun e w' ⟨e1, b⟩ => ⟨e1, b ▸ hh⟩
theorem hs_leaf (h : Hs w0 S w g gs room cs fr) (K : List Int) (v : Value) (bs : List Int) (hr : Reads w v bs) (hK : Key K) (hL : Laid w) (hl : bs.length ≤ 1024) (hf : ¬ Full room cs fr) : Calls Tryz.prog 97 #[.pointer (some ⟨g, 0, none⟩), .agg (B K), v] w fun e w' => ∃ v', e = .returned (.tuple #[.int .i64 (tkH cs fr : Int), .int .i64 0]) ∧ CeOk (lfC (lfD K (vaD bs)) K v' bs) ∧ Hs w0 S w' g gs room (tkC cs fr (1, lfC (lfD K (vaD bs)) K v' bs)) fr.dropLast := by
  obtain ⟨⟨vp, vf, s, m, n⟩, W⟩ := h
  have hbs : Bytes bs := by obtain ⟨_, _, _, _, _, hb, _⟩ := hr; exact hb
  refine (leafS_ok s K v bs hr hK hL hl hf).mono ?_
  rintro e w' ⟨v', rfl, ok, t⟩
  have tk := (tk_of (frOk_inv s.sl.inv) (1, lfC (lfD K (vaD bs)) K v' bs)).2
  obtain ⟨vp', vf', s', m', n'⟩ := t
  exact ⟨v', rfl, ok, ⟨vp', vf', s', m.trans n m', n.trans m.size n'⟩, W.leaf tk (leaf_ok K v' bs hbs hl) ok rfl⟩
theorem hs_inner (h : Hs w0 S w g gs room cs fr) (d l r : Nat) (hd : d < 256) (hml : mayP cs (l : Int)) (hmr : mayP cs (r : Int)) (u : Bool) (hu : u = true ↔ Und (sdC cs l).key (sdC cs r).key (d : Int)) (hf : fitP d (sdC cs l) (sdC cs r) u = true) (hL : Laid w) (hfu : ¬ Full room cs fr) : Calls Tryz.prog 99 #[.pointer (some ⟨g, 0, none⟩), .int .i64 (d : Int), .int .i64 (l : Int), .int .i64 (r : Int)] w fun e w' => ∃ cs', InnR cs fr d l r cs' ∧ e = .returned (.tuple #[.int .i64 (tkH cs fr : Int), .int .i64 0]) ∧ Hs w0 S w' g gs room cs' fr.dropLast := by
  obtain ⟨⟨vp, vf, s, m, n⟩, W⟩ := h
  refine (innerS_ok s W d l r hd hml hmr u hu hf hL hfu).mono ?_
  rintro e w' ⟨K, hK, rfl, t⟩
  have tk := (tk_of (frOk_inv s.sl.inv) (1, inC (inD (sdD cs l) (sdD cs r)) K ((sdC cs l).sz + (sdC cs r).sz) d l r)).2
  obtain ⟨vp', vf', s', m', n'⟩ := t
  exact ⟨_, ⟨K, hK, rfl⟩, rfl, ⟨vp', vf', s', m.trans n m', n.trans m.size n'⟩, W.inner tk (inn_ok W hd hml hmr hu hf hK) ⟨dig_length _, dig_bytes _, hK.1, none, 0, rfl⟩ rfl hml.own hmr.own⟩
theorem hs_drop (h : Hs w0 S w g gs room cs fr) (i : Nat) (ho : 0 < own cs [] i) : Calls Tryz.prog 32 #[.pointer (some ⟨g, 0, none⟩), .int .i64 ((i + 1 : Nat) : Int)] w fun e w' => ∃ cs' fr' n, Run cs fr [i + 1] cs' fr' n ∧ Step cs [i + 1] cs' [] n ∧ e = .returned (.tuple #[.int .i64 (n : Int), .int .i64 0]) ∧ Hs w0 S w' g gs room cs' fr' := by
  obtain ⟨⟨vp, vf, s, m, n⟩, W⟩ := h
  refine (dropS_ok s W i ho).mono ?_
  rintro e w' ⟨cs', fr', k, hr, rfl, t⟩
  have st := hr.step (W.less i ho)
  obtain ⟨vp', vf', s', m', n'⟩ := t
  exact ⟨cs', fr', k, hr, st, rfl, ⟨vp', vf', s', m.trans n m', n.trans m.size n'⟩, st.wf⟩
theorem hs_drop_miss (h : Hs w0 S w g gs room cs fr) (q : Int) (hm : cot cs q ≤ (cat cs q).ab) : Calls Tryz.prog 32 #[.pointer (some ⟨g, 0, none⟩), .int .i64 q] w fun e w' => e = .returned (.tuple #[.int .i64 0, .int .i64 7]) ∧ Hs w0 S w' g gs room cs fr := by
  have hh := h
  obtain ⟨⟨vp, vf, s, m, n⟩, W⟩ := h
  exact (dropS_miss s W q hm).mono fun e w' ⟨e1, b⟩ => ⟨e1, hh.grow b⟩
theorem hs_occ (h : Hs w0 S w g gs room cs fr) : Calls Tryz.prog 34 #[.pointer (some ⟨g, 0, none⟩)] w fun e w' => e = .returned (.int .i64 (noc cs : Int)) ∧ Below w.heap.size w w' := by
  obtain ⟨⟨vp, vf, s, m, n⟩, W⟩ := h
  exact occS_ok s
theorem hs_room (h : Hs w0 S w g gs room cs fr) : Calls Tryz.prog 90 #[.pointer (some ⟨g, 0, none⟩)] w fun e w' => e = .returned (.int .i64 (room : Int)) ∧ Below w.heap.size w w' := by
  obtain ⟨⟨vp, vf, s, m, n⟩, W⟩ := h
  exact roomS_ok s
end

end Go.Proofs.YtlhnodinhmdjnaaGreatDoor

/- What a store tells as a node by digests (Node), as a contract. -/
namespace Go.Proofs.YtlhnodinhmdjnaaGreatDoor
set_option maxRecDepth 20000
open Go.RowKit

/-- What Node answers. -/
def vNd (mk : Bool) (ca : Int → Ce) (h : Int) : List Int := if (ca h).kind = 1 then nd 1 (ca h).key (vaD (ca h).bs) z32 z32 else if (ca h).kind = 2 then nd 2 z32 z32 (vDg mk ca ((ca h).l : Int)) (vDg mk ca ((ca h).r : Int)) else nd 0 z32 z32 z32 z32

theorem vNd_ok {w : World} {v : Value} {mk : Bool} {ct : Int → Nat} {ca : Int → Ce} (V : Vw w v mk ct ca) (h : Int) : (vNd mk ca h).length = 129 ∧ ∃ k a b c d, vNd mk ca h = nd k a b c d ∧ Nd k a b c d := by
  have z := z32_bytes
  have hq : ∃ k a b c d, vNd mk ca h = nd k a b c d ∧ Nd k a b c d := by
    unfold vNd
    split
    · exact ⟨_, _, _, _, _, rfl, by omega, by omega, (V.ok h).hk.1, dig_length _, rfl, rfl, (V.ok h).hk.2, dig_bytes _, z, z⟩
    · split
      · exact ⟨_, _, _, _, _, rfl, by omega, by omega, rfl, rfl, (vDg_len V _).1, (vDg_len V _).1, z, z, (vDg_len V _).2, (vDg_len V _).2⟩
      · exact ⟨_, _, _, _, _, rfl, by omega, by omega, rfl, rfl, rfl, rfl, z, z, z, z⟩
  obtain ⟨k, a, b, c, d, e, n⟩ := hq
  exact ⟨by rw [e]; exact n.length, k, a, b, c, d, e, n⟩

theorem nodeS_size {zs : List Int} (h : zs.length = 129) : (Tryz.prog.info? 170).map (·.size) = some (B zs).size := by rw [B_size, h]; kernel_rfl

theorem nodeS_zero : ∀ w, (zeroValue 170).run Tryz.prog w = .ok (.agg (B (nd 0 z32 z32 z32 z32))) w := zero_of_info (n := 129) (by kernel_rfl) |>.1

theorem zagg_node : Value.agg Tryz.zeroCells170 = .agg (B (nd 0 z32 z32 z32 z32)) := by kernel_rfl

end Go.Proofs.YtlhnodinhmdjnaaGreatDoor
