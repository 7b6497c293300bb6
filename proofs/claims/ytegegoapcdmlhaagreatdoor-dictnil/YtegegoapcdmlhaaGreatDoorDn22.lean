/- DictNil's walk: of no dictionary, and of one that nobody made, all calls answer so. -/
import Derived.Test.YtegegoapcdmlhaaGreatDoorDn21
import Derived.Test.YtegegoapcdmlhaaGreatDoorRows
import Derived.ProofKit
import Derived.OpenShut
import Derived.ShutString
import Derived.ChangeOld
import Derived.Below
import Derived.SizedLaws
import Derived.Test.YtegegoapcdmlhaaGreatDoorDn02
namespace Go.Proofs.YtegegoapcdmlhaaGreatDoor
set_option maxRecDepth 20000
open Go.RowKit

/-- The cells of a call that came in. -/
structure D15 (c : List Value) (s : ByteArray) (k v l : Value) (q : Int) : Prop where
  len : c.length = 6
  nm : c[1]? = some (.string s)
  ky : c[2]? = some k
  vl : c[3]? = some v
  ls : c[4]? = some l
  ms : c[5]? = some (.int .i64 q)

theorem d15_cells {w : World} {b : Nat} {t : TypeId} {c : List Value} {s : ByteArray} {k v l : Value} {q : Int} (hb : Blk w b t c.toArray) (h : D15 c s k v l q) : w.cell? ⟨b, 1, none⟩ = some (.string s) ∧ w.cell? ⟨b, 2, none⟩ = some k ∧ w.cell? ⟨b, 3, none⟩ = some v ∧ w.cell? ⟨b, 4, none⟩ = some l ∧ w.cell? ⟨b, 5, none⟩ = some (.int .i64 q) := by
  refine ⟨?_, ?_, ?_, ?_, ?_⟩
  · rw [hb.cell, List.getElem?_toArray]; exact h.nm
  · rw [hb.cell, List.getElem?_toArray]; exact h.ky
  · rw [hb.cell, List.getElem?_toArray]; exact h.vl
  · rw [hb.cell, List.getElem?_toArray]; exact h.ls
  · rw [hb.cell, List.getElem?_toArray]; exact h.ms

theorem built_d0 : Tryz.prog.built 101 [] = some #[.pointer none, .pointer none, .int .i64 0] := by kernel_rfl
theorem built_h0 : Tryz.prog.built 39 [] = some (B z32) := by kernel_rfl
theorem zero_h0 : ∀ w, (zeroValue 39).run Tryz.prog w = .ok (.agg (B z32)) w := fun w => by kernel_rfl
theorem size_h0 : (Tryz.prog.info? 39).map (·.size) = some (B z32).size := by rw [B_size]; exact size_hash

theorem wpList_bld15 {ops : Array Oper} {rest : List Oper} {op : Oper} {a : Act} {Q : Exit → Act → World → Prop} (w : World) (hgd : Region.wanted op (yielded ops a.tmps) = true) (ty : TypeId) (parts : Array (Nat × Operand)) (ho : op.op = .build ty parts)
    (cs : Array Value) (h : Tryz.prog.built ty (parts.map fun (i, x) => (i, a.eval x)).toList = some cs)
    (hk : wpList Tryz.prog ops Q rest (a.put op.dst (.agg cs)) w) : wpList Tryz.prog ops Q (op :: rest) a w := by
  refine BigFrame.wpList_want hgd fun K hK => ?_
  unfold Oper.wp
  rw [exec_blc op a ty parts ho cs h w]
  exact hK _ _ hk

set_option maxRecDepth 100000 in
set_option maxHeartbeats 8000000 in
theorem dictNil_walk {w : World} {c : List Value} {s : ByteArray} {ka va la : Option Addr} {kn kc vn vc ln lc : Nat} {q : Int} (h : D15 c s (.slice ka kn kc) (.slice va vn vc) (.slice la ln lc) q) : Calls Tryz.prog 8 #[.agg c.toArray] w fun e w' => e = .returned (.bool true) ∧ Below w.heap.size w w' := by
  have HA := hidden h
  have HEQ : Hid (∀ w, (Op.equalIn 10000 39 (.agg (B z32)) (.agg (B z32))).run Tryz.prog w = .ok true w) := fun w => by have := hash_eq z32 z32 rfl rfl w; simpa using this
  clear h
  go_enter Tryz.func8, Tryz.ntmps8
  go_wp2_with (first
    | ((with_reducible refine at_bxd 1 ?_); refine wpList_bx _ rfl _ _ rfl _ rfl ?_; intro w1 b1 hg1 hl1 B1 q1; have HQ1 := hidden q1; have HB1 := hidden B1; clear hg1 hl1 B1 q1)
    | ((with_reducible refine at_bdd 19 ?_); refine wpList_bld _ rfl _ _ rfl _ (by rw [List.map_toArray]; exact built_d0) ?_)
    | ((with_reducible refine at_bxd 20 ?_); refine wpList_bx _ rfl _ _ rfl _ rfl ?_; intro w2 b2 hg2 hl2 B2 q2; have HQ2 := hidden (grow_trans HQ1.out q2); have HB2 := hidden B2; have HB12 := hidden (HB1.out.grow q2); clear hg2 hl2 B2 q2))
  have HB3 : Hid (Blk (w2.alloc (.cells #[.pointer none, .pointer (some ⟨b2, 0, none⟩)] 62)) w2.heap.size 62 #[.pointer none, .pointer (some ⟨b2, 0, none⟩)]) := Blk.new _ _ _
  have HQ3 : Hid (Below w.heap.size w (w2.alloc (.cells #[.pointer none, .pointer (some ⟨b2, 0, none⟩)] 62))) := grow_trans HQ2.out (grow_alloc _ _)
  have HB13 : Hid (Blk (w2.alloc (.cells #[.pointer none, .pointer (some ⟨b2, 0, none⟩)] 62)) b1 70 c.toArray) := HB12.out.grow (grow_alloc _ _)
  have HB23 : Hid (Blk (w2.alloc (.cells #[.pointer none, .pointer (some ⟨b2, 0, none⟩)] 62)) b2 101 #[.pointer none, .pointer none, .int .i64 0]) := HB2.out.grow (grow_alloc _ _)
  generalize w2.alloc (.cells #[.pointer none, .pointer (some ⟨b2, 0, none⟩)] 62) = w3 at *
  generalize w2.heap.size = g3 at *
  clear HQ1 HB1 HQ2 HB2 HB12
  go_loopw [4] (fun iv wr => ∃ (k : Nat), k ≤ 2 ∧ iv = .int .i64 (k : Int) ∧ Hid (Below w3.heap.size w3 wr)) (fun iv _ => 2 - (intOf iv).toNat)
  case atStart => exact ⟨0, by omega, rfl, Below.refl _ _⟩
  case round =>
    obtain ⟨k, hk, rfl, HR⟩ := hrel
    by_cases hlt : k < 2
    · obtain ⟨v, hv⟩ : ∃ v, v = if k = 0 then Value.pointer none else Value.pointer (some ⟨b2, 0, none⟩) := ⟨_, rfl⟩
      have HV : Hid (∀ w', Below w3.heap.size w3 w' → NoS w' v) := fun w' hb => by
        by_cases e : k = 0
        · rw [if_pos e] at hv
          exact .inl hv
        · rw [if_neg e] at hv
          refine .inr ⟨b2, hv, ?_⟩
          rw [(HB23.out.grow hb).cell]
          rfl
      have cv : wr.cell? ⟨g3, k, none⟩ = some v := by
        rw [(HB3.out.grow HR.out).cell, hv]
        by_cases e : k = 0
        · subst e
          rfl
        · obtain rfl : k = 1 := by omega
          rfl
      have HB := hidden (HB13.out.grow HR.out)
      obtain ⟨p, hp⟩ : ∃ p, v = .pointer p := by
        by_cases e : k = 0
        · exact ⟨_, by rw [hv, if_pos e]⟩
        · exact ⟨_, by rw [hv, if_neg e]⟩
      subst hp
      have HQ := HR
      obtain ⟨c1, c2, c3, c4, c5⟩ := d15_cells HB.out HA.out
      have i0 : (0 : Int) ≤ (k : Int) := by omega
      have i1 : (k : Int) < 2 := by omega
      have i2 : k < 2 := hlt
      have hwk : wrap64 ((k : Int) + 1) = ((k + 1 : Nat) : Int) := by rw [Go.IntWalk.wrap64_in _ (by omega)]; rfl
      have heq := HEQ.out
      clear hv hk HB3 HB23 HB13
      go_wp2_with (first
        | (go_at_call 52; refine (ddelete_no _ _ (HV.out _ HQ.out) _ _ _).mono ?_; rintro e wn ⟨rfl, qn⟩; replace HQ := hidden (grow_trans HQ.out qn); replace HB := hidden (HB.out.grow qn); clear c1 c2 c3 c4 c5; obtain ⟨c1, c2, c3, c4, c5⟩ := d15_cells HB.out HA.out; clear qn)
        | (go_at_call 50; refine (dget_no _ s _ (HV.out _ HQ.out) _ _ _).mono ?_; rintro e wn ⟨rfl, qn⟩; replace HQ := hidden (grow_trans HQ.out qn); replace HB := hidden (HB.out.grow qn); clear c1 c2 c3 c4 c5; obtain ⟨c1, c2, c3, c4, c5⟩ := d15_cells HB.out HA.out; clear qn)
        | (go_at_call 37; refine (droot_no _ s _ (HV.out _ HQ.out)).mono ?_; rintro e wn ⟨rfl, qn⟩; replace HQ := hidden (grow_trans HQ.out qn); replace HB := hidden (HB.out.grow qn); clear c1 c2 c3 c4 c5; obtain ⟨c1, c2, c3, c4, c5⟩ := d15_cells HB.out HA.out; clear qn)
        | (go_at_call 47; refine (dlen_no _ s _ (HV.out _ HQ.out)).mono ?_; rintro e wn ⟨rfl, qn⟩; replace HQ := hidden (grow_trans HQ.out qn); replace HB := hidden (HB.out.grow qn); clear c1 c2 c3 c4 c5; obtain ⟨c1, c2, c3, c4, c5⟩ := d15_cells HB.out HA.out; replace HH := hidden (HH.out.grow qn); clear qn)
        | (go_at_call 46; refine (dsome_no _ s _ (HV.out _ HQ.out) _ _ _ _).mono ?_; rintro e wn ⟨rfl, qn⟩; replace HQ := hidden (grow_trans HQ.out qn); replace HB := hidden (HB.out.grow qn); clear c1 c2 c3 c4 c5; obtain ⟨c1, c2, c3, c4, c5⟩ := d15_cells HB.out HA.out; replace HH := hidden (HH.out.grow qn); clear qn)
        | (go_at_call 55; refine (handle_no _ s _ (HV.out _ HQ.out)).mono ?_; rintro e wn ⟨rfl, qn⟩; replace HQ := hidden (grow_trans HQ.out qn); replace HB := hidden (HB.out.grow qn); clear c1 c2 c3 c4 c5; obtain ⟨c1, c2, c3, c4, c5⟩ := d15_cells HB.out HA.out; replace HH := hidden (HH.out.grow qn); clear qn)
        | (go_at_call 51; refine (dput_no _ _ (HV.out _ HQ.out) _ _ _ _ _ _).mono ?_; rintro e wn ⟨rfl, qn⟩; replace HQ := hidden (grow_trans HQ.out qn); replace HB := hidden (HB.out.grow qn); clear c1 c2 c3 c4 c5; obtain ⟨c1, c2, c3, c4, c5⟩ := d15_cells HB.out HA.out; replace HH := hidden (HH.out.grow qn); clear qn)
        | (go_at_call 56; refine (dbatch_no _ _ (HV.out _ HQ.out) _ _ _).mono ?_; rintro e wn ⟨rfl, qn⟩; replace HQ := hidden (grow_trans HQ.out qn); replace HB := hidden (HB.out.grow qn); clear c1 c2 c3 c4 c5; obtain ⟨c1, c2, c3, c4, c5⟩ := d15_cells HB.out HA.out; replace HH := hidden (HH.out.grow qn); clear qn)
        | (go_at_call 53; refine (snapshot_no _ s _ (HV.out _ HQ.out)).mono ?_; rintro e wn ⟨rfl, qn⟩; replace HQ := hidden (grow_trans HQ.out qn); replace HB := hidden (HB.out.grow qn); clear c1 c2 c3 c4 c5; obtain ⟨c1, c2, c3, c4, c5⟩ := d15_cells HB.out HA.out; replace HH := hidden (HH.out.grow qn); clear qn)
        | (go_at_call 54; refine (rollback_no _ s _ (HV.out _ HQ.out)).mono ?_; rintro e wn ⟨rfl, qn⟩; replace HQ := hidden (grow_trans HQ.out qn); replace HB := hidden (HB.out.grow qn); clear c1 c2 c3 c4 c5; obtain ⟨c1, c2, c3, c4, c5⟩ := d15_cells HB.out HA.out; replace HH := hidden (HH.out.grow qn); clear qn)
        | (go_at_call 48; refine (prune_no _ s _ (HV.out _ HQ.out)).mono ?_; rintro e wn ⟨rfl, qn⟩; replace HQ := hidden (grow_trans HQ.out qn); replace HB := hidden (HB.out.grow qn); clear c1 c2 c3 c4 c5; obtain ⟨c1, c2, c3, c4, c5⟩ := d15_cells HB.out HA.out; replace HH := hidden (HH.out.grow qn); clear qn)
        | (go_at_call 45; refine (dnames_no _ _ (HV.out _ HQ.out)).mono ?_; rintro e wn ⟨rfl, qn⟩; replace HQ := hidden (grow_trans HQ.out qn); replace HB := hidden (HB.out.grow qn); clear c1 c2 c3 c4 c5; obtain ⟨c1, c2, c3, c4, c5⟩ := d15_cells HB.out HA.out; replace HH := hidden (HH.out.grow qn); clear qn)
        | (go_at_call 39; refine (docc_no _ _ (HV.out _ HQ.out)).mono ?_; rintro e wn ⟨rfl, qn⟩; replace HQ := hidden (grow_trans HQ.out qn); replace HB := hidden (HB.out.grow qn); clear c1 c2 c3 c4 c5; obtain ⟨c1, c2, c3, c4, c5⟩ := d15_cells HB.out HA.out; replace HH := hidden (HH.out.grow qn); clear qn)
        | (go_at_call 57; refine (droom_no _ _ (HV.out _ HQ.out)).mono ?_; rintro e wn ⟨rfl, qn⟩; replace HQ := hidden (grow_trans HQ.out qn); replace HB := hidden (HB.out.grow qn); clear c1 c2 c3 c4 c5; obtain ⟨c1, c2, c3, c4, c5⟩ := d15_cells HB.out HA.out; replace HH := hidden (HH.out.grow qn); clear qn)
        | (go_at_call 43; refine (dstore_no _ _ (HV.out _ HQ.out)).mono ?_; rintro e wn ⟨rfl, qn⟩; replace HQ := hidden (grow_trans HQ.out qn); replace HB := hidden (HB.out.grow qn); clear c1 c2 c3 c4 c5; obtain ⟨c1, c2, c3, c4, c5⟩ := d15_cells HB.out HA.out; replace HH := hidden (HH.out.grow qn); clear qn)
        | ((with_reducible refine at_ald 11 ?_); refine wpList_al _ rfl _ rfl _ zero_h0 ?_; intro w8 b8 hg8 hl8 B8 q8; have HLO := hidden (Nat.le_trans HQ.out.size hg8); replace HQ := hidden (grow_trans HQ.out q8); replace HB := hidden (HB.out.grow q8); have HN8 : Hid (b1 ≠ b8) := (by intro e; have := (HB.out).lt; have h1 := HB.out.ne B8 (by decide); exact h1 e); clear hg8 hl8 q8)
        | ((with_reducible refine at_st 11 ?_); refine wpList_sto _ rfl _ _ _ rfl b8 _ (B z32) rfl rfl B8 size_h0 rfl (B_one _) ?_; intro w9 B9 r9; have HH := hidden B9; have md9 : Mod [b8] _ w9 := Mod.of_some r9 (by simp); replace HB := hidden (HB.out.mod md9 (by simpa using HN8.out)); replace HQ := hidden (HQ.out.trans (md9.below (fun y hy => by simp at hy; rw [hy]; exact HLO.out) HQ.out.size)); clear c1 c2 c3 c4 c5; obtain ⟨c1, c2, c3, c4, c5⟩ := d15_cells HB.out HA.out; clear B8 B9 r9 md9)
        | ((with_reducible refine at_ldd 128 11 ?_); refine wpList_ldg _ rfl _ _ rfl b8 _ rfl HH.out _ _ Tryz.underlying39 size_h0 ?_)
        | (refine wpList_bld15 _ rfl _ _ rfl (B z32) (by rw [List.map_toArray]; exact built_h0) ?_))
      exact ⟨⟨k + 1, by omega, by go_num, HQ.out⟩, by simp [intOf]; omega⟩
    · obtain rfl : k = 2 := by omega
      go_wp2_with fail
      go_ret
      exact ⟨rfl, grow_trans HQ3.out HR.out⟩

end Go.Proofs.YtegegoapcdmlhaaGreatDoor

/- What every statement's proof asks of the program as a whole. -/
namespace Go.Proofs.YtegegoapcdmlhaaGreatDoor
set_option maxRecDepth 20000
open Go.ChangeShapes Go.WideShapes Go.ChangeAt Go.RowKit

theorem ownK : ownKnob Tryz.prog.godebug = none := by kernel_rfl
theorem laidOut : laidOutB Tryz.prog = true := by kernel_rfl

theorem okWide_st {t : TypeId} {fs : Array Field} {W : World} {base : Nat} {v : Value} (ht : Tryz.prog.underlying t = some (.struct fs)) (h : Value.okWide Tryz.prog W .any base t v) : ∃ cs, v = .agg cs := by
  unfold Value.okWide at h
  cases v <;> simp_all

end Go.Proofs.YtegegoapcdmlhaaGreatDoor

/- What a statement's arguments are in memory: of an argument that is a slice of bytes: it reads as bytes, and is no longer than memory. -/
namespace Go.Proofs.YtegegoapcdmlhaaGreatDoor
set_option maxRecDepth 20000
open Go.ChangeShapes Go.WideShapes Go.ChangeAt Go.RowKit

theorem cells_byte : Tryz.prog.cellsOf 5 = 1 := by kernel_rfl
theorem bytesOf_byte : Tryz.prog.bytesOf 5 = 1 := by kernel_rfl

/-- A slice of bytes that came in. -/
theorem arg_bytes {H : Type} {enc : TypeId × Value → H} {W : World} {base : Nat} {v : Value} {d : DataW H} {p : List MemPlace} (hv : Value.okWide Tryz.prog W .any base 35 v)
    (h : DataW.Trod enc Tryz.prog W 0 (fun _ => true) true 35 v d p) {ts : List TypeId} {ds : List (DataW H)} (hsz : (DataW.weightsEach Tryz.prog ts ds).all (· ≤ reachBytes) = true) (j : Nat) (ht : ts[j]? = some 35) (hd : ds[j]? = some d) :
    ∃ zs, Reads W v zs ∧ zs.length ≤ 140737488355328 - 4096 ∧ ((d = .nil ∧ zs = []) ∨ ∃ el sp, d = .slice el sp ∧ el.length = zs.length) := by
  obtain ⟨a, len, cap, rfl⟩ := okWide_slice u_bytes hv
  obtain ⟨fuel, hf⟩ := h
  rcases open_ints u_bytes u_byte cells_byte hf with ⟨hcs, hx⟩ | ⟨x, l, c, zs, hcs, _, hl, hm, hz, hx, hcell, hwz⟩
  · simp [Value.cells] at hcs
    obtain ⟨rfl, rfl, rfl⟩ := hcs
    simp only [Prod.mk.injEq] at hx
    exact ⟨[], Reads.nil _, by simp, .inl ⟨hx.1, rfl⟩⟩
  · simp [Value.cells] at hcs
    obtain ⟨rfl, rfl, rfl⟩ := hcs
    simp at hz
    simp only [Prod.mk.injEq] at hx
    have hlen : (zs.take len).length = len := by simp; omega
    have hs := sized_slice hsz ht (by rw [hd, hx.1]) u_bytes
    rw [bytesOf_byte] at hs
    simp only [lits, List.length_map, List.length_take, List.length_drop, reachBytes] at hs
    refine ⟨zs.take len, ⟨some x, cap, by rw [hlen], by omega, fun h => by simp at h, ?_, ?_⟩, by omega, .inr ⟨_, _, hx.1, by simp [lits]⟩⟩
    · intro z hz'
      have := bounds_u8 (hwz z (List.mem_of_mem_take hz'))
      omega
    · intro hp
      rw [hlen] at hp
      obtain ⟨b, off, spot⟩ := x
      have hspot : spot = none := by
        have := World.cell?_spot (hcell 0 (by omega))
        simpa [Addr.add] using this
      subst hspot
      refine ⟨b, off, rfl, fun i hi => ?_⟩
      rw [hlen] at hi
      have := hcell i (by omega)
      rw [Addr.add_lit] at this
      rw [this]
      simp [List.getD, hi]

end Go.Proofs.YtegegoapcdmlhaaGreatDoor
