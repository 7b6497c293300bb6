/- Slots of a slab of things of type store.cell, as a contract. -/
import Derived.Test.YtegegoapcdmlhaaGreatDoorDn10
import Derived.Test.YtegegoapcdmlhaaGreatDoorProg
import Derived.Test.YtegegoapcdmlhaaGreatDoorDn04
import Derived.BigQuiet
namespace Go.Proofs.YtegegoapcdmlhaaGreatDoor
set_option maxRecDepth 20000
open Go.RowKit

set_option maxHeartbeats 400000 in
theorem slots_noC (v : Value) (w : World) (h : NoC w v) : Calls Tryz.prog 191 #[v] w fun e w' => e = .returned (.slice none 0 0) ∧ w' = w := by
  have HN := hidden h
  clear h
  go_enter Tryz.func191, Tryz.ntmps191
  go_wp2_with (go_at_call 148; refine (made_noC v _ HN.out).mono ?_; rintro e w' ⟨rfl, rfl⟩)
  go_ret
  exact ⟨rfl, rfl⟩

set_option maxHeartbeats 2000000 in
theorem slots_okC (g : Nat) (vp vf : Value) (room : Nat) (ps : List Pl) (fr : List Nat) (w : World) (h : SlC w g vp vf room ps fr) : Calls Tryz.prog 191 #[.pointer (some ⟨g, 0, none⟩)] w fun e w' => ∃ a c, e = .returned (.slice a (slotsOf ps).length c) ∧ w'.ownsRow w.heap.size 3 1 (.slice a (slotsOf ps).length c) (slotsOf ps).length (nats (slotsOf ps)) ∧ Below w.heap.size w w' := by
  have c0 := h.c0
  have HS := hidden h
  have hl := h.inv.len
  have hr := h.inv.r2
  have hs := h.inv.sum
  have ho : occs ps ≤ 65536 := by omega
  have hp : ps.length ≤ 65536 := by omega
  clear h hl hr hs
  go_enter Tryz.func191, Tryz.ntmps191
  go_wp2_with (first
    | (go_at_call 148; refine (made_okC g _ c0).mono ?_; rintro e w' ⟨rfl, hx⟩; rw [hx]; clear hx w')
    | (go_at_call 64; refine (len_okC g vp vf room ps fr _ HS.out).mono ?_; rintro e w1 ⟨rfl, b1⟩; have HS1 := hidden (HS.out.mod (Mod.of_below b1 []) (fun _ _ h => (by cases h))); have c2 := HS1.out.c2; obtain ⟨pa, pc, rfl⟩ := lst_slice HS1.out.pls)
    | (at_make; refine wpList_mkL _ rfl _ _ _ 3 Tryz.underlying53 (.int .i64 0) 8 ⟨_, rfl, rfl, rfl, rfl⟩ rfl rfl _ _ _ _ 0 (occs ps) rfl rfl rfl rfl (by omega) (by omega) (by omega) ?_; intro w2 o2 bb2 _; have hcc := HS1.out.c2; have c2' := below_cell bb2 hcc; clear hcc))
  have hb2 : Below w.heap.size w w2 := b1.trans (bb2.mono b1.size)
  have HO : Hid (w2.ownsRow w.heap.size 3 1 (.slice (some ⟨w1.heap.size, 0, none⟩) 0 (occs ps)) (slotsK ps 0).length (nats (slotsK ps 0))) := ⟨by simp [slotsK, nats], .inr (by
    rcases o2.2 with ⟨h, _⟩ | ⟨g', cap, cur, h1, h2, h3⟩
    · cases h
    · exact ⟨g', cap, cur, h1, Nat.le_trans b1.size h2, h3⟩)⟩
  clear o2 bb2 b1 c2 HS1
  go_loopw [3, 16] (fun v i wr => ∃ (k : Nat) (a : Option Addr) (c : Nat), k ≤ ps.length ∧ i = .int .i64 k ∧ v = .slice a (slotsK ps k).length c ∧ Hid (wr.ownsRow w.heap.size 3 1 (.slice a (slotsK ps k).length c) (slotsK ps k).length (nats (slotsK ps k))) ∧ Below w.heap.size w wr) (fun _ i _ => ps.length - (intOf i).toNat)
  case atStart => exact ⟨0, _, _, by omega, rfl, rfl, HO, hb2⟩
  case round =>
    clear HO hb2
    obtain ⟨k, a, c, hk, rfl, rfl, hO, hbl⟩ := hrel
    have hle := slotsK_le ps k
    have HS1 := hidden (HS.out.mod (Mod.of_below hbl []) (fun _ _ h => by cases h))
    have c2 := HS1.out.c2
    have hwk : wrap64 ((k : Int) + 1) = ((k + 1 : Nat) : Int) := by rw [Go.IntWalk.wrap64_in _ (by omega)]; rfl
    by_cases hlt : k < ps.length
    · have i1 : (k : Int) < (ps.length : Int) := by omega
      have i0 : (0 : Int) ≤ (k : Int) := by omega
      obtain ⟨gp, pc', e, _⟩ := lst_pos HS1.out.pls (by omega)
      injection e with e1 _ e3
      subst e1
      subst e3
      have c4 := HS1.out.count k hlt
      obtain ⟨q, hq0⟩ : ∃ q, q = cnt ps k := ⟨_, rfl⟩
      rw [← hq0] at c4
      by_cases hc : 0 < cnt ps k
      · have hys := slotsK_yes ps k hc
        have HY := hidden hys
        have hq : (0 : Int) < (q : Int) := by omega
        clear hc hys hq0
        have HLE := hidden hle
        have HPP := hidden hp
        generalize hm : (slotsK ps k).length = m at *
        have HM := hidden hm
        clear hm
        go_wp2_with (at_builtin; refine wpList_appB _ rfl _ _ _ rfl w.heap.size 3 1 8 Tryz.underlying53 info_nat (by omega) _ m (nats (slotsK ps k)) rfl (hO.out.alloc _) wr.heap.size [Value.int .i64 ((k : Int) + 1)] rfl (Blk.new _ _ _) rfl (by intro u hu; simp at hu; subst hu; rfl) (by have := HLE.out; have := HPP.out; simp only [maxLen]; omega) (by have := HLE.out; have := HPP.out; omega) (by have := hbl.size; simp; omega) ?_; intro a3 c3 w3 o3 g3)
        have e3 : (slotsK ps (k + 1)).length = m + 1 := by rw [HY.out, List.length_append, HM.out]; rfl
        refine ⟨⟨k + 1, a3, c3, by omega, by go_num, by rw [e3], ?_, ?_⟩, by simp [intOf]; omega⟩
        · show World.ownsRow _ _ _ _ _ _ _
          rw [e3, HY.out, nats_snoc]
          exact o3
        · exact (hbl.trans ((grow_alloc wr _).mono hbl.size)).grown g3 (by have := hbl.size; simp; omega) (fun q hq => (hO.out.lt q hq).1)
      · have hno := slotsK_no ps k hc
        have HY := hidden hno
        have hqz : q = 0 := by omega
        subst hqz
        clear hc hno hq0
        go_wp2
        refine ⟨⟨k + 1, a, c, by omega, by go_num, by rw [HY.out], ?_, hbl⟩, by simp [intOf]; omega⟩
        rw [HY.out]
        exact hO
    · obtain rfl : k = ps.length := by omega
      have HO2 := hO
      clear hO
      generalize hm : (slotsK ps ps.length).length = m at *
      have HM := hidden hm
      clear hm
      go_wp2
      go_ret
      have e : (slotsOf ps).length = m := HM.out
      refine ⟨a, c, by rw [e]; rfl, ?_, hbl⟩
      rw [e]
      exact HO2.out

end Go.Proofs.YtegegoapcdmlhaaGreatDoor

/- A slab of things of type store.cell that a walk keeps: in whatever blocks of the walk's own it lies. -/
namespace Go.Proofs.YtegegoapcdmlhaaGreatDoor
set_option maxRecDepth 20000
open Go.RowKit

/-- The slab at g is in this state, all its blocks are new since w0, and nothing of w0 has turned. -/
def HsC (w0 w : World) (g room : Nat) (ps : List Pl) (fr : List Nat) : Prop := ∃ vp vf, SlC w g vp vf room ps fr ∧ (∀ k ∈ slB g vp vf, w0.heap.size ≤ k) ∧ Below w0.heap.size w0 w

theorem HsC.low {w0 w : World} {g room : Nat} {ps : List Pl} {fr : List Nat} (h : HsC w0 w g room ps fr) : Below w0.heap.size w0 w := by
  obtain ⟨_, _, _, _, h⟩ := h
  exact h

theorem HsC.inv {w0 w : World} {g room : Nat} {ps : List Pl} {fr : List Nat} (h : HsC w0 w g room ps fr) : Inv room ps fr := by
  obtain ⟨_, _, h, _, _⟩ := h
  exact h.inv

theorem HsC.grow {w0 w w' : World} {g room : Nat} {ps : List Pl} {fr : List Nat} (h : HsC w0 w g room ps fr) (hb : Below w.heap.size w w') : HsC w0 w' g room ps fr := by
  obtain ⟨vp, vf, h1, h2, h3⟩ := h
  exact ⟨vp, vf, h1.mod (Mod.of_below hb []) (fun _ _ h => by cases h), h2, h3.trans (hb.mono h3.size)⟩

/-- A call that turns it. -/
theorem HsC.use {w0 w : World} {g room : Nat} {ps ps' : List Pl} {fr fr' : List Nat} {f : FuncId} {args : Array Value} {E : Value} (h : HsC w0 w g room ps fr)
    (hc : ∀ vp vf, SlC w g vp vf room ps fr → Calls Tryz.prog f args w fun e w' => e = .returned E ∧ TurnC w g (slB g vp vf) room ps' fr' w') : Calls Tryz.prog f args w fun e w' => e = .returned E ∧ HsC w0 w' g room ps' fr' := by
  obtain ⟨vp, vf, h1, h2, h3⟩ := h
  refine (hc vp vf h1).mono ?_
  rintro e w' ⟨rfl, vp', vf', k1, k2, k3⟩
  exact ⟨rfl, vp', vf', k1, k3.base h2 h3.size, h3.trans (k2.below h2 h3.size)⟩

/-- A call that leaves it. -/
theorem HsC.look {w0 w : World} {g room : Nat} {ps : List Pl} {fr : List Nat} {f : FuncId} {args : Array Value} {E : Value} (h : HsC w0 w g room ps fr)
    (hc : ∀ vp vf, SlC w g vp vf room ps fr → Calls Tryz.prog f args w fun e w' => e = .returned E ∧ Below w.heap.size w w') : Calls Tryz.prog f args w fun e w' => e = .returned E ∧ HsC w0 w' g room ps fr := by
  obtain ⟨vp, vf, h1, h2, h3⟩ := h
  refine (hc vp vf h1).mono ?_
  rintro e w' ⟨rfl, hb⟩
  exact ⟨rfl, HsC.grow ⟨vp, vf, h1, h2, h3⟩ hb⟩

theorem calls_sameC {w : World} {f : FuncId} {args : Array Value} {E : Value} (hc : Calls Tryz.prog f args w fun e w' => e = .returned E ∧ w' = w) : Calls Tryz.prog f args w fun e w' => e = .returned E ∧ Below w.heap.size w w' := hc.mono (fun _ _ ⟨h1, h2⟩ => ⟨h1, h2 ▸ Below.refl _ _⟩)

end Go.Proofs.YtegegoapcdmlhaaGreatDoor

/- The small functions of sha, and of the document's answer, on words, as contracts. -/
namespace Go.Proofs.YtegegoapcdmlhaaGreatDoor
set_option maxRecDepth 20000
open Go.RowKit

set_option maxHeartbeats 400000 in
theorem turn_any (x n : Int) (w : World) (h0 : 0 < n) (h : n < 32) :
    Calls Tryz.prog 309 #[.int .u32 x, .int .u64 n] w fun e w' => e = .returned (.int .u32 (rot x n)) ∧ w' = w := by
  go_enter Tryz.func309, Tryz.ntmps309
  go_wp2
  go_ret
  exact ⟨rfl, rfl⟩

set_option maxHeartbeats 400000 in
theorem turned_any (x n : Int) (w : World) (h0 : 0 < n) (h : n < 32) :
    Calls Tryz.prog 271 #[.int .u32 x, .int .i64 n] w fun e w' => e = .returned (.int .u32 (rot x n)) ∧ ∃ k, w' = w.drewN k := by
  go_enter Tryz.func271, Tryz.ntmps271
  go_wp2_with fail
  go_quiet (fail)
  go_wp2
  go_ret
  exact ⟨rfl, _, rfl⟩

set_option maxHeartbeats 400000 in
theorem choose_any (x y z : Int) (w : World) :
    Calls Tryz.prog 293 #[.int .u32 x, .int .u32 y, .int .u32 z] w fun e w' => e = .returned (.int .u32 (chs x y z)) ∧ w' = w := by
  have hs : IntKind.u32.signed = false := rfl
  go_enter Tryz.func293, Tryz.ntmps293
  go_wp2
  go_ret
  exact ⟨rfl, rfl⟩

set_option maxHeartbeats 400000 in
theorem majority_any (x y z : Int) (w : World) :
    Calls Tryz.prog 295 #[.int .u32 x, .int .u32 y, .int .u32 z] w fun e w' => e = .returned (.int .u32 (maj x y z)) ∧ w' = w := by
  go_enter Tryz.func295, Tryz.ntmps295
  go_wp2
  go_ret
  exact ⟨rfl, rfl⟩

set_option maxHeartbeats 400000 in
theorem mixLower_any (x : Int) (w : World) :
    Calls Tryz.prog 292 #[.int .u32 x] w fun e w' => e = .returned (.int .u32 (big1 x)) ∧ w' = w := by
  go_enter Tryz.func292, Tryz.ntmps292
  go_wp2_with (go_at_call 309; refine (turn_any _ _ _ (by omega) (by omega)).mono ?_; rintro e w' ⟨rfl, rfl⟩)
  go_ret
  exact ⟨rfl, rfl⟩

set_option maxHeartbeats 400000 in
theorem mixUpper_any (x : Int) (w : World) :
    Calls Tryz.prog 294 #[.int .u32 x] w fun e w' => e = .returned (.int .u32 (big0 x)) ∧ w' = w := by
  go_enter Tryz.func294, Tryz.ntmps294
  go_wp2_with (go_at_call 309; refine (turn_any _ _ _ (by omega) (by omega)).mono ?_; rintro e w' ⟨rfl, rfl⟩)
  go_ret
  exact ⟨rfl, rfl⟩

set_option maxHeartbeats 400000 in
theorem mixEarly_any (x : Int) (w : World) :
    Calls Tryz.prog 298 #[.int .u32 x] w fun e w' => e = .returned (.int .u32 (sm0 x)) ∧ w' = w := by
  go_enter Tryz.func298, Tryz.ntmps298
  go_wp2_with (go_at_call 309; refine (turn_any _ _ _ (by omega) (by omega)).mono ?_; rintro e w' ⟨rfl, rfl⟩)
  go_ret
  exact ⟨rfl, rfl⟩

set_option maxHeartbeats 400000 in
theorem mixLate_any (x : Int) (w : World) :
    Calls Tryz.prog 297 #[.int .u32 x] w fun e w' => e = .returned (.int .u32 (sm1 x)) ∧ w' = w := by
  go_enter Tryz.func297, Tryz.ntmps297
  go_wp2_with (go_at_call 309; refine (turn_any _ _ _ (by omega) (by omega)).mono ?_; rintro e w' ⟨rfl, rfl⟩)
  go_ret
  exact ⟨rfl, rfl⟩

theorem u32_or_nat (a b : Nat) (ha : a < 4294967296) (hb : b < 4294967296) : bits .or .u32 (a : Int) (b : Int) = ((a ||| b : Nat) : Int) := by
  have hx : a ||| b < 2 ^ 32 := Nat.or_lt_two_pow (by omega) (by omega)
  show IntKind.u32.wrap ((BitVec.ofInt 32 (a : Int) ||| BitVec.ofInt 32 (b : Int)).toNat : Int) = _
  have e : ∀ c : Nat, c < 4294967296 → (BitVec.ofInt 32 (c : Int)).toNat = c := by
    intro c hc
    rw [BitVec.toNat_ofInt]
    omega
  rw [BitVec.toNat_or, e a ha, e b hb]
  show (((a ||| b : Nat) : Int)) % 4294967296 = _
  omega

theorem u32_join (i : Nat) (a b : Int) (h1 : 0 ≤ a) (h2 : a < 4294967296) (h3 : 0 ≤ b) (h4 : b < 2 ^ i) (h5 : b < 4294967296) (hm : a.toNat % 2 ^ i = 0) : bits .or .u32 a b = a + b := by
  obtain ⟨A, rfl⟩ := Int.eq_ofNat_of_zero_le h1
  obtain ⟨B, rfl⟩ := Int.eq_ofNat_of_zero_le h3
  rw [u32_or_nat A B (by omega) (by omega), nat_join i A B (by simpa using hm) (by exact_mod_cast h4)]
  simp

theorem word_num (a b c d : Int) (ha : 0 ≤ a ∧ a ≤ 255) (hb : 0 ≤ b ∧ b ≤ 255) (hc : 0 ≤ c ∧ c ≤ 255) (hd : 0 ≤ d ∧ d ≤ 255) :
    bits .or .u32 (bits .or .u32 (bits .or .u32 (a * 16777216) (b * 65536)) (c * 256)) d = a * 16777216 + b * 65536 + c * 256 + d := by
  rw [u32_join 24 (a * 16777216) (b * 65536) (by omega) (by omega) (by omega) (by omega) (by omega) (by omega),
    u32_join 16 _ (c * 256) (by omega) (by omega) (by omega) (by omega) (by omega) (by omega),
    u32_join 8 _ d (by omega) (by omega) (by omega) (by omega) (by omega) (by omega)]

set_option maxHeartbeats 400000 in
theorem word_any (a b c d : Int) (w : World) (ha : 0 ≤ a ∧ a ≤ 255) (hb : 0 ≤ b ∧ b ≤ 255) (hc : 0 ≤ c ∧ c ≤ 255) (hd : 0 ≤ d ∧ d ≤ 255) :
    Calls Tryz.prog 296 #[.int .u8 a, .int .u8 b, .int .u8 c, .int .u8 d] w fun e w' => e = .returned (.int .u32 (a * 16777216 + b * 65536 + c * 256 + d)) ∧ w' = w := by
  have HE := hidden (word_num a b c d ha hb hc hd)
  go_enter Tryz.func296, Tryz.ntmps296
  go_wp2
  go_ret
  refine ⟨?_, rfl⟩
  rw [← HE.out]
  rfl

end Go.Proofs.YtegegoapcdmlhaaGreatDoor
