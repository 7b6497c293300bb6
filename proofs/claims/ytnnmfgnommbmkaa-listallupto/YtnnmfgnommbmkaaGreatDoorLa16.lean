/- sha's State.Write, as a contract: what was written stands behind what was there. -/
import Derived.Test.YtnnmfgnommbmkaaGreatDoorLa01
import Derived.Test.YtnnmfgnommbmkaaGreatDoorLa15
import Derived.Deep.RegionHeld2
import Derived.Deep.RegionHeld
namespace Go.Proofs.YtnnmfgnommbmkaaGreatDoor
set_option maxRecDepth 20000
open Go.RowKit

def movedTo (a : Option Addr) (c n : Nat) : Option Addr := if c = n then a else a.map fun x => x.add n
def slen : Value → Nat
  | .slice _ n _ => n
  | _ => 0

theorem Reads.drop {w : World} {a : Option Addr} {L c : Nat} {zs : List Int} (h : Reads w (.slice a L c) zs) (n : Nat) (hn : n ≤ L) : Reads w (.slice (movedTo a c n) (L - n) (c - n)) (zs.drop n) := by
  obtain ⟨a', c', e, h1, h2, h3, h4⟩ := h
  injection e with e1 e2 e3
  subst e1; subst e3
  refine ⟨movedTo a c n, c - n, ?_, by rw [List.length_drop]; omega, ?_, h3.drop n, ?_⟩
  · rw [List.length_drop, e2]
  · intro hm
    unfold movedTo at hm
    by_cases hc : c = n
    · omega
    · rw [if_neg hc] at hm
      have := h2 (by cases a with
        | none => rfl
        | some x => simp at hm)
      omega
  · intro hp
    rw [List.length_drop] at hp
    obtain ⟨b, off, rfl, hc⟩ := h4 (by omega)
    refine ⟨b, off + n, ?_, fun i hi => ?_⟩
    · unfold movedTo
      rw [if_neg (by omega)]
      simp [Addr.add_lit]
    · rw [List.length_drop] at hi
      have := hc (n + i) (by omega)
      rw [← Nat.add_assoc] at this
      rw [this]
      simp [List.getD, List.getElem?_drop]
theorem movedTo_own (a : Option Addr) (L c L' c' n : Nat) (g : Nat) (h : (Value.slice a L c).ownBlock ≠ some g) : (Value.slice (movedTo a c n) L' c').ownBlock ≠ some g := by
  unfold movedTo
  by_cases hc : c = n
  · rw [if_pos hc]
    cases a with
    | none => simp [Value.ownBlock]
    | some x => simpa [Value.ownBlock] using h
  · rw [if_neg hc]
    cases a with
    | none => simp [Value.ownBlock]
    | some x =>
      have : (x.add n).block = x.block := by unfold Addr.add; split <;> rfl
      simpa [Value.ownBlock, this] using h

theorem Reads.kept {w w' : World} {v : Value} {zs : List Int} {g : Nat} (h : Reads w v zs) (hg : w.grownBy w' (some g)) (hv : 0 < zs.length → v.ownBlock ≠ some g) : Reads w' v zs := by
  obtain ⟨a, cap, e, h1, h2, h3, h4⟩ := h
  refine ⟨a, cap, e, h1, h2, h3, fun hp => ?_⟩
  obtain ⟨b, off, ea, hc⟩ := h4 hp
  refine ⟨b, off, ea, fun i hi => ?_⟩
  have hlt := block_lt_of_cell (hc i hi)
  have hb : b ≠ g := by
    intro e2
    apply hv hp
    rw [e, ea, e2]
    rfl
  have := hg.block b hlt (fun e => hb (by injection e))
  rw [← hc i hi]
  unfold World.cell?
  simp only [this]
theorem Laid.kept {w w' : World} {g : Nat} (h : Laid w) (hg : w.grownBy w' (some g)) (h2 : 3 ≤ g) : Laid w' := by
  obtain ⟨h0, h1, h3⟩ := h
  have e1 := hg.block 2 (by omega) (fun e => by injection e; omega)
  have e0 := hg.block 1 (by omega) (fun e => by injection e; omega)
  refine ⟨Nat.le_trans h0 hg.size, fun i hi => ?_, fun i hi => ?_⟩
  · rw [← h1 i hi]
    unfold World.cell?
    simp only [e1]
  · rw [← h3 i hi]
    unfold World.cell?
    simp only [e0]

theorem step_ldm {ops : Array Oper} {o : Oper} {a : Act} {K : Act → World → Prop} {Q : Exit → Act → World → Prop} {E : Prop} (w : World) (hgd : o.guard = none) (ty : TypeId) (x : Operand) (ho : o.op = .load ty x)
    (b off : Nat) (hx : a.eval x = .pointer (some ⟨b, off, none⟩)) (cs : List Value) (hc : w.rangeAt b off cs) (d : TypeDesc) (hu : Tryz.prog.underlying ty = some d) (hd : d.isRow = true) (hi : (Tryz.prog.info? ty).map (·.size) = some cs.length)
    (h : K (a.put o.dst (.agg cs.toArray)) w) : if Region.wanted o (yielded ops a.tmps) = true then Oper.wp Tryz.prog o a w K Q else E := by
  have hw : Region.wanted o (yielded ops a.tmps) = true := by simp [Region.wanted, hgd]
  rw [if_pos hw]
  exact wp_load_mid ty x ho b off hx cs d hc hu hd hi h

theorem step_stm {ops : Array Oper} {o : Oper} {a : Act} {K : Act → World → Prop} {Q : Exit → Act → World → Prop} {E : Prop} (w : World) (hgd : o.guard = none) (ty : TypeId) (x y : Operand) (ho : o.op = .store ty x y)
    (b off : Nat) (cells : Array Value) (hx : a.eval x = .pointer (some ⟨b, off, none⟩)) (hy : a.eval y = .agg cells) (ht : w.there b off cells.size) (hi : (Tryz.prog.info? ty).map (·.size) = some cells.size) (h1 : cells.all (·.oneCell') = true)
    (h : K (a.put o.dst undef) (w.setCells b off cells.toList)) : if Region.wanted o (yielded ops a.tmps) = true then Oper.wp Tryz.prog o a w K Q else E := by
  have hw : Region.wanted o (yielded ops a.tmps) = true := by simp [Region.wanted, hgd]
  rw [if_pos hw]
  exact wp_store_mid ty x y ho b off cells hx hy ht hi h1 h

theorem St.words {w : World} {g : Nat} {ws bk : List Int} {c : Int} (h : St w g ws bk c) : w.rangeAt g 0 (U ws).toList := by
  intro j v hv
  have hj : j < 8 := by have := (List.getElem?_eq_some_iff.1 hv).1; simpa [U_toList, h.2.1] using this
  rw [Nat.zero_add, h.word j hj]
  rw [U_toList, List.getElem?_map, List.getElem?_eq_getElem (by have := h.2.1; omega)] at hv
  have := h.2.1
  simp [List.getD, this, hj]
  simpa using hv
theorem St.there {w : World} {g : Nat} {ws bk : List Int} {c : Int} (h : St w g ws bk c) : w.there g 0 8 := by
  intro j hj
  rw [Nat.zero_add]
  exact ⟨by rw [h.word j hj]; rfl, h.1.frozen j⟩
theorem St.stepped {w : World} {g : Nat} {ws ws' bk : List Int} {c : Int} (h : St w g ws bk c) (hl : ws'.length = 8) : St (w.setCells g 0 (U ws').toList) g ws' bk c := by
  obtain ⟨h1, h2, h3, h4⟩ := h
  have h5 := h1.cells (U ws').toList 0 (by rw [Cs_size _ _ _ _ h2 h3, U_toList, List.length_map]; omega)
  rw [U_toList] at h5 ⊢
  rw [Cs_words ws ws' bk c true (by omega)] at h5
  exact ⟨h5, hl, h3, h4⟩
theorem grown_setCells (g : Nat) : ∀ (vs : List Value) (o : Nat) (w : World), w.grownBy (w.setCells g o vs) (some g)
  | [], _, w => World.grownBy.refl _ _
  | v :: vs, o, w => by
    rw [World.setCells]
    exact grown_trans (grown_setCell w g o v) (grown_setCells g vs (o + 1) _)

theorem st_block {w w' : World} {g : Nat} {ws bk : List Int} {c : Int} (h : St w g ws bk c) (f m : Nat) (ys : List Int) (hy : ys.length = m) (hf : f + m ≤ 64) (hb : Bytes ys)
    (hB : Blk w' g 174 ((Cs ws bk c true).toList.take (8 + f) ++ (ys.map (Value.int .u8) ++ (Cs ws bk c true).toList.drop (8 + f + m))).toArray) : St w' g ws (bk.take f ++ ys ++ bk.drop (f + m)) c := by
  obtain ⟨h1, h2, h3, h4⟩ := h
  rw [Cs_block ws bk ys c true f m h2 h3 hf] at hB
  exact ⟨hB, h2, by simp [hy, h3]; omega, ((h4.take f).append hb).append (h4.drop _)⟩

theorem st_count {w : World} {g : Nat} {ws bk : List Int} {c : Int} (h : St w g ws bk c) (d : Int) : St (w.setCell ⟨g, 72, none⟩ (.int .i64 d)) g ws bk d := by
  obtain ⟨h1, h2, h3, h4⟩ := h
  have := h1.set 72 (.int .i64 d)
  rw [Cs_count ws bk c d true h2 h3] at this
  exact ⟨this, h2, h3, h4⟩

set_option maxHeartbeats 8000000 in
set_option maxRecDepth 20000 in
theorem write_any (g : Nat) (v : Value) (l bs : List Int) (w : World) (hT : Txt w g l) (hr : Reads w v bs) (hv : 0 < bs.length → v.ownBlock ≠ some g) (hL : Laid w) (hg : 3 ≤ g) (hlen : l.length + bs.length ≤ 1152921504606846976) :
    Calls Tryz.prog 102 #[.pointer (some ⟨g, 0, none⟩), v] w fun e w' => e = .returned (.int .i64 (bs.length : Int)) ∧ Txt w' g (l ++ bs) ∧ Laid w' ∧ w.grownBy w' (some g) := by
  have hm : w.cell? ⟨g, 73, none⟩ = some (.bool true) := by
    obtain ⟨bk, h1, _⟩ := hT
    exact h1.made
  have HT := hidden hT
  have HR := hidden hr
  have HV := hidden hv
  have HL := hidden hL
  obtain ⟨a, c, rfl, hlc, _, _, _⟩ := hr
  clear hT hv hL
  go_enter Tryz.func102, Tryz.ntmps102
  go_wp2_with (go_at_call 121; refine (good_at _ _ _ hm).mono ?_; rintro e w' ⟨rfl, hw'⟩; rw [hw']; clear hw')
  clear hm
  go_loopw [5] (fun r wr => ∃ (k : Nat) (a' : Option Addr) (c' : Nat), k ≤ bs.length ∧ bs.length - k ≤ c' ∧ r = .slice a' (bs.length - k) c' ∧ Hid (Reads wr (.slice a' (bs.length - k) c') (bs.drop k)) ∧ Hid (0 < bs.length - k → (Value.slice a' (bs.length - k) c').ownBlock ≠ some g) ∧ Hid (Txt wr g (l ++ bs.take k)) ∧ Hid (Laid wr) ∧ Hid (w.grownBy wr (some g))) (fun r _ => slen r)
  case atStart => exact ⟨0, a, c, by omega, hlc, rfl, HR, fun _ => HV.out (by omega), by simpa using HT, HL, World.grownBy.refl _ _⟩
  case round =>
    clear HT HR HV HL
    obtain ⟨k, a', c', hk, hc', rfl, hR, hV, hT, hL, hG⟩ := hrel
    by_cases hlt : k < bs.length
    · obtain ⟨bk, hSt, htk, hby⟩ := hT.out
      have htl : (l ++ bs.take k).length = l.length + k := by rw [List.length_append, List.length_take]; omega
      obtain ⟨t, ht⟩ : ∃ t, t = l.length + k := ⟨_, rfl⟩
      obtain ⟨n, hn⟩ : ∃ n, n = bs.length - k := ⟨_, rfl⟩
      obtain ⟨f, hf⟩ : ∃ f, f = t % 64 := ⟨_, rfl⟩
      obtain ⟨m, hm⟩ : ∃ m, m = min n (64 - f) := ⟨_, rfl⟩
      have cc := hSt.count
      rw [htl, ← ht] at cc
      rw [← hn] at hc' hR hV ⊢
      have HF : Hid (∀ w', w'.cell? ⟨g, 72, none⟩ = some (.int .i64 (t : Int)) → Calls Tryz.prog 122 #[.pointer (some ⟨g, 0, none⟩)] w' fun e w'' => e = .returned (.int .i64 (f : Int)) ∧ w'' = w') := by
        intro w' hw'
        rw [hf]
        exact filled_at g t w' hw'
      have hRl : (bs.drop k).length = n := by rw [List.length_drop, hn]
      rw [htl, ← ht] at hSt htk
      obtain ⟨W, hW⟩ : ∃ W, W = eat (l ++ bs.take k) (t / 64) := ⟨_, rfl⟩
      rw [← hW] at hSt
      have HW := hidden hW
      clear hW
      have HBL : Hid (W.length = 8 ∧ bk.length = 64 ∧ Bytes bk) := hSt.2
      have HSt := hidden hSt
      have HTK := hidden htk
      have HBY := hidden hby
      have HTL := hidden htl
      have Ht := hidden ht
      have Hn := hidden hn
      have Hf := hidden hf
      have Hm := hidden hm
      have HRl := hidden hRl
      have hRB : Hid (Bytes ((bs.drop k).take m)) := by
        obtain ⟨_, _, _, _, _, hb, _⟩ := hR.out
        exact hb.take m
      have n0 : 0 < n := by omega
      replace hV := hidden (hV.out n0)
      have n1 : (0 : Int) < (n : Int) := by omega
      have f0 : (0 : Int) ≤ (f : Int) := by omega
      have f1 : (f : Int) ≤ 64 := by omega
      have f2 : ¬ (64 = f) := by omega
      have m0 : (0 : Int) ≤ (m : Int) := by omega
      have m1 : (m : Int) ≤ (n : Int) := by omega
      have m2 : (n : Int) ≤ (c' : Int) := by omega
      have m3 : (m : Int) ≤ (c' : Int) := by omega
      clear hSt htk hby htl ht hn hf hm hRl hT
      go_wp2_with fail
      go_region_held2 (fun w' => w'.cell? ⟨g, 72, none⟩ = some (.int .i64 (t : Int)))
        (first | assumption)
        (first | (go_at_call 122; refine (HF.out _ (by assumption)).mono ?_; rintro e w7 ⟨rfl, hw7⟩; rw [hw7]; clear hw7) | (refine run_copy_blk _ rfl _ _ rfl g (8 + f) (64 - f) (64 - f) _ _ (bs.drop k) _ HSt.out.1 hR.out rfl rfl m (by rw [HRl.out]; exact Hm.out) (by have := Hm.out; have := Hf.out; omega) (by rw [Cs_size _ _ _ _ HSt.out.2.1 HSt.out.2.2.1]; have := Hm.out; omega) ?_; intro w8 B8 g8 s8; have S8 := st_block HSt.out f m ((bs.drop k).take m) (by rw [List.length_take, HRl.out]; have := Hm.out; omega) (by have := Hm.out; have := Hf.out; omega) hRB.out B8; have c8 := S8.count))
      have G8 : Hid (w.grownBy w8 (some g)) := grown_trans hG.out ⟨g8.os, g8.tape, g8.output, g8.size, g8.block⟩
      have R8 : Hid (Reads w8 (.slice a' n c') (bs.drop k)) := Reads.kept hR.out ⟨g8.os, g8.tape, g8.output, g8.size, g8.block⟩ (fun _ => hV.out)
      have L8 : Hid (Laid w8) := Laid.kept hL.out ⟨g8.os, g8.tape, g8.output, g8.size, g8.block⟩ hg
      have HS8 := hidden S8
      have fr := S8.1.frozen 72
      have t0 : (0 : Int) ≤ (t : Int) := by omega
      have t1 : (t : Int) + (m : Int) ≤ 1152921504606846976 := by have := Ht.out; have := Hm.out; have := Hn.out; omega
      have t2 : (t : Int) ≤ 1152921504606846976 := by omega
      obtain ⟨u, hu⟩ : ∃ u : Nat, (t : Int) + (m : Int) = (u : Int) := ⟨t + m, by omega⟩
      have HU : Hid (u = t + m) := by show u = _; omega
      have ru : IntKind.i64.wrap (u : Int) = (u : Int) := by rw [IntKind.wrap_i64]; omega
      have S9 : Hid (St (w8.setCell ⟨g, 72, none⟩ (.int .i64 (u : Int))) g W (bk.take f ++ (bs.drop k).take m ++ bk.drop (f + m)) (u : Int)) := st_count S8 u
      have G9 : Hid (w.grownBy (w8.setCell ⟨g, 72, none⟩ (.int .i64 (u : Int))) (some g)) := grown_trans G8.out (grown_setCell _ _ _ _)
      have L9 : Hid (Laid (w8.setCell ⟨g, 72, none⟩ (.int .i64 (u : Int)))) := L8.out.kept (grown_setCell _ _ _ _) hg
      have R9 : Hid (Reads (w8.setCell ⟨g, 72, none⟩ (.int .i64 (u : Int))) (.slice a' n c') (bs.drop k)) := R8.out.kept (grown_setCell _ _ _ _) (fun _ => hV.out)
      clear B8 g8 s8 S8 hR hL hG HSt R8 L8 G8 HS8 cc
      have HY : Hid ((l ++ bs.take k) ++ (bs.drop k).take m = l ++ bs.take (k + m)) := by
        show _ = _
        rw [List.append_assoc, ← List.take_add]
      have HYl : Hid (((bs.drop k).take m).length = m) := by
        show _ = _
        rw [List.length_take, HRl.out]
        have := Hm.out
        omega
      have HF2 : Hid (∀ w', w'.cell? ⟨g, 72, none⟩ = some (.int .i64 (u : Int)) → Calls Tryz.prog 122 #[.pointer (some ⟨g, 0, none⟩)] w' fun e w'' => e = .returned (.int .i64 ((u % 64 : Nat) : Int)) ∧ w'' = w') := fun w' hw' => filled_at g u w' hw'
      have HV2 : Hid ((Value.slice (movedTo a' c' m) (n - m) (c' - m)).ownBlock ≠ some g) := movedTo_own a' n c' _ _ m g hV.out
      have R10 : Hid (Reads (w8.setCell ⟨g, 72, none⟩ (.int .i64 (u : Int))) (.slice (movedTo a' c' m) (n - m) (c' - m)) ((bs.drop k).drop m)) := R9.out.drop m (by omega)
      have HNM : Hid (n - m = bs.length - (k + m) ∧ bs.length - (k + m) ≤ c' - m ∧ (bs.drop k).drop m = bs.drop (k + m) ∧ k + m ≤ bs.length ∧ n - m < n) := by
        have h1 := Hn.out
        have h2 := Hm.out
        have h3 := Hf.out
        exact ⟨by omega, by omega, by rw [List.drop_drop], by omega, by omega⟩
      have HUL : Hid (((l ++ bs.take k) ++ (bs.drop k).take m).length = u) := by
        show _ = _
        rw [List.length_append, HTL.out, HYl.out, HU.out, Ht.out]
      have HBB : Hid (Bytes ((l ++ bs.take k) ++ (bs.drop k).take m)) := HBY.out.append hRB.out
      have END : Hid (∀ (r : Value) (wx : World), r = .slice (movedTo a' c' m) (n - m) (c' - m) → Reads wx (.slice (movedTo a' c' m) (n - m) (c' - m)) ((bs.drop k).drop m) → Txt wx g ((l ++ bs.take k) ++ (bs.drop k).take m) → Laid wx → w.grownBy wx (some g) →
          (∃ (k : Nat) (a' : Option Addr) (c' : Nat), k ≤ bs.length ∧ bs.length - k ≤ c' ∧ r = .slice a' (bs.length - k) c' ∧ Hid (Reads wx (.slice a' (bs.length - k) c') (bs.drop k)) ∧ Hid (0 < bs.length - k → (Value.slice a' (bs.length - k) c').ownBlock ≠ some g) ∧ Hid (Txt wx g (l ++ bs.take k)) ∧ Hid (Laid wx) ∧ Hid (w.grownBy wx (some g))) ∧ slen r < n) := by
        intro r wx hr h1 h2 h3 h4
        obtain ⟨q1, q2, q3, q4, q5⟩ := HNM.out
        have h5 := HV2.out
        rw [HY.out] at h2
        rw [q3, q1] at h1
        rw [q1] at h5
        refine ⟨⟨k + m, _, _, q4, q2, by rw [hr, q1], h1, fun _ => h5, h2, h3, h4⟩, ?_⟩
        rw [hr]
        exact q5
      obtain ⟨a2, ha2⟩ : ∃ a2, a2 = movedTo a' c' m := ⟨_, rfl⟩
      have HA := hidden ha2
      have HV3 := HV2
      rw [← ha2] at END R10 HV3
      clear HV2 HNM ha2
      by_cases hfm : f + m = 64
      · have hu0 : u % 64 = 0 := by have := HU.out; have := Hf.out; omega
        rw [hu0] at HF2
        have TT : Hid (∀ wx, St wx g (stp W (bk.take f ++ (bs.drop k).take m ++ bk.drop (f + m))) (bk.take f ++ (bs.drop k).take m ++ bk.drop (f + m)) (u : Int) → Txt wx g ((l ++ bs.take k) ++ (bs.drop k).take m)) := by
          intro wx hx
          have h1 := whole_part (l ++ bs.take k) bk ((bs.drop k).take m) f m (by rw [HTL.out, ← Ht.out]; exact Hf.out) HYl.out HBL.out.2.1 (by rw [HTL.out, ← Ht.out, Hf.out]; exact HTK.out) hfm
          refine ⟨_, ?_, h1.2, HBB.out⟩
          rw [h1.1, HTL.out, ← Ht.out, ← HW.out, HUL.out]
          exact hx
        generalize bk.take f ++ (bs.drop k).take m ++ bk.drop (f + m) = bk' at *
        generalize hw9 : w8.setCell ⟨g, 72, none⟩ (.int .i64 (u : Int)) = w9 at *
        have HU8 : Hid ((U W).toList.length = 8) := by rw [U_toList, List.length_map]; exact HBL.out.1
        have HB64 : Hid ((B bk').toList.length = 64) := by rw [B_toList, List.length_map]; exact S9.out.2.2.1
        have hif : (if c' = m then a' else Option.map (fun x => x.add m) a') = a2 := by rw [HA.out, movedTo]
        go_wp2_with (go_at_call 122; refine (HF2.out _ S9.out.count).mono ?_; rintro e wy ⟨rfl, hwy⟩; rw [hwy]; clear hwy)
        refine wp_region_any (by kernel_rfl) ?_
        change wpAny _ _ _ _ _ _ _ (World.drew _)
        refine wpAny_take (i := 0) (v := .pointer (some ⟨g, 0, none⟩)) rfl (by kernel_rfl) (by kernel_rfl) (by kernel_rfl) (fun _ _ _ h => h) (Or.inl ⟨by rfl, fun w => by go_simp⟩) ?_
        simp only [Act.put, zq1, zq2, zq4, zq5, zq6]
        refine wpAny_take (i := 1) (v := .pointer (some ⟨g, 0, none⟩)) rfl (by kernel_rfl) (by kernel_rfl) (by kernel_rfl) (fun _ _ _ h => h) (Or.inl ⟨by rfl, fun w => by go_simp⟩) ?_
        simp only [Act.put, zq1, zq2, zq3, zq4, zq5, zq6]
        refine wpAny_take (i := 5) (v := .pointer (some ⟨g, 0, none⟩)) rfl (by kernel_rfl) (by kernel_rfl) (by kernel_rfl) (fun _ _ _ h => h) (Or.inl ⟨by rfl, fun w => by go_simp⟩) ?_
        simp only [Act.put, zq1, zq2, zq3, zq4, zq5, zq6]
        refine wpAny_take (i := 2) (v := .pointer (some ⟨g, 0, none⟩)) rfl (by kernel_rfl) (by kernel_rfl) (by kernel_rfl) (fun _ _ _ h => h) (Or.inl ⟨by rfl, fun w => by go_simp⟩) ?_
        simp only [Act.put, zq1, zq2, zq3, zq4, zq5, zq6]
        refine wpAny_take (i := 6) (v := .pointer (some ⟨g, 0, none⟩)) rfl (by kernel_rfl) (by kernel_rfl) (by kernel_rfl) (fun _ _ _ h => h) (Or.inl ⟨by rfl, fun w => by go_simp⟩) ?_
        simp only [Act.put, zq1, zq2, zq3, zq4, zq5, zq6]
        refine wpAny_take (i := 3) (v := .pointer (some ⟨g, 0, none⟩)) rfl (by kernel_rfl) (by kernel_rfl) (by kernel_rfl) (fun _ _ _ h => h) (Or.inl ⟨by rfl, fun w => by go_simp⟩) ?_
        simp only [Act.put, zq1, zq2, zq3, zq4, zq5, zq6]
        refine wpAny_take (i := 7) (v := .pointer (some ⟨g, 8, none⟩)) rfl (by kernel_rfl) (by kernel_rfl) (by kernel_rfl) (fun _ _ _ h => h) (Or.inl ⟨by rfl, fun w => by go_simp⟩) ?_
        simp only [Act.put, zq1, zq2, zq3, zq4, zq5, zq6]
        refine wpAny_ready (rs := [4, 8]) (by kernel_rfl) (by simp) ?_
        refine AllReady.cons rfl (fun K hK => ?_) (AllReady.cons rfl (fun K hK => ?_) AllReady.nil)
        · refine step_ldm _ rfl _ _ rfl g 0 rfl (U W).toList S9.out.words _ Tryz.underlying171 rfl (by rw [HU8.out]; exact size_w8) ?_
          refine hK _ _ ?_
          clear hK K
          simp only [Act.put, zq1, zq2, zq3, zq4, zq5, zq6]
          refine wpAny_ready (rs := [8]) (by kernel_rfl) (by simp) ?_
          refine AllReady.cons rfl (fun K hK => ?_) AllReady.nil
          refine step_ldm _ rfl _ _ rfl g 8 rfl (B bk').toList S9.out.range _ Tryz.underlying172 rfl (by rw [HB64.out]; exact size_b64) ?_
          refine hK _ _ ?_
          clear hK K
          simp only [Act.put, zq1, zq2, zq3, zq4, zq5, zq6]
          refine wpAny_ready (rs := [9]) (by kernel_rfl) (by simp) ?_
          refine AllReady.cons rfl (fun K hK => ?_) AllReady.nil
          go_simp
          refine (step_any W bk' _ (L9.out.grow (Below.refl _ _).drew) HBL.out.1 S9.out.2.2.1 S9.out.2.2.2).mono ?_
          rintro e w10 ⟨rfl, b10⟩
          have hb10 : Below w9.heap.size w9 w10 := grow_trans (Below.refl _ _).drew b10
          refine hK _ _ ?_
          clear hK K
          refine wpAny_take (i := 10) (v := .pointer (some ⟨g, 0, none⟩)) rfl (by kernel_rfl) (by kernel_rfl) (by kernel_rfl) (fun _ _ _ h => h) (Or.inl ⟨by rfl, fun w => by go_simp⟩) ?_
          simp only [Act.put, zq1, zq2, zq3, zq4, zq5, zq6]
          refine wpAny_take (i := 11) (v := .pointer (some ⟨g, 0, none⟩)) rfl (by kernel_rfl) (by kernel_rfl) (by kernel_rfl) (fun _ _ _ h => h) (Or.inl ⟨by rfl, fun w => by go_simp⟩) ?_
          simp only [Act.put, zq1, zq2, zq3, zq4, zq5, zq6]
          refine wpAny_ready (rs := [12]) (by kernel_rfl) (by simp) ?_
          refine AllReady.cons rfl (fun K hK => ?_) AllReady.nil
          have S10 := S9.out.grow hb10
          have hl8 : (stp W bk').length = 8 := stp_length _ _ HBL.out.1
          have hz8 : (U (stp W bk')).size = 8 := by rw [U_size]; exact hl8
          refine step_stm _ rfl _ _ _ rfl g 0 (U (stp W bk')) rfl rfl (by rw [hz8]; exact S10.there) (by rw [hz8]; exact size_w8) (U_one _) ?_
          refine hK _ _ ?_
          clear hK K
          refine wpAny_done (by kernel_rfl) ?_ _
          simp only [Act.put, List.getElem_toArray, List.getElem_cons_zero, List.getElem_cons_succ]
          have S11 := S10.stepped hl8
          have G11 : w.grownBy (w10.setCells g 0 (U (stp W bk')).toList) (some g) := grown_trans (grown_trans G9.out (below_grown hb10 _)) (grown_setCells _ _ _ _)
          have L11 := (L9.out.grow hb10).kept (grown_setCells g (U (stp W bk')).toList 0 w10) hg
          have R11 := (R10.out.grow hb10).kept (grown_setCells g (U (stp W bk')).toList 0 w10) (fun _ => HV3.out)
          have T11 := TT.out _ S11
          clear S10 hl8 hz8 S11
          generalize w10.setCells g 0 (U (stp W bk')).toList = w11 at *
          go_wp2
          exact END.out _ _ rfl R11 T11 L11 G11
        · refine step_ldm _ rfl _ _ rfl g 8 rfl (B bk').toList S9.out.range _ Tryz.underlying172 rfl (by rw [HB64.out]; exact size_b64) ?_
          refine hK _ _ ?_
          clear hK K
          simp only [Act.put, zq1, zq2, zq3, zq4, zq5, zq6]
          refine wpAny_ready (rs := [4]) (by kernel_rfl) (by simp) ?_
          refine AllReady.cons rfl (fun K hK => ?_) AllReady.nil
          refine step_ldm _ rfl _ _ rfl g 0 rfl (U W).toList S9.out.words _ Tryz.underlying171 rfl (by rw [HU8.out]; exact size_w8) ?_
          refine hK _ _ ?_
          clear hK K
          simp only [Act.put, zq1, zq2, zq3, zq4, zq5, zq6]
          refine wpAny_ready (rs := [9]) (by kernel_rfl) (by simp) ?_
          refine AllReady.cons rfl (fun K hK => ?_) AllReady.nil
          go_simp
          refine (step_any W bk' _ (L9.out.grow (Below.refl _ _).drew) HBL.out.1 S9.out.2.2.1 S9.out.2.2.2).mono ?_
          rintro e w10 ⟨rfl, b10⟩
          have hb10 : Below w9.heap.size w9 w10 := grow_trans (Below.refl _ _).drew b10
          refine hK _ _ ?_
          clear hK K
          refine wpAny_take (i := 10) (v := .pointer (some ⟨g, 0, none⟩)) rfl (by kernel_rfl) (by kernel_rfl) (by kernel_rfl) (fun _ _ _ h => h) (Or.inl ⟨by rfl, fun w => by go_simp⟩) ?_
          simp only [Act.put, zq1, zq2, zq3, zq4, zq5, zq6]
          refine wpAny_take (i := 11) (v := .pointer (some ⟨g, 0, none⟩)) rfl (by kernel_rfl) (by kernel_rfl) (by kernel_rfl) (fun _ _ _ h => h) (Or.inl ⟨by rfl, fun w => by go_simp⟩) ?_
          simp only [Act.put, zq1, zq2, zq3, zq4, zq5, zq6]
          refine wpAny_ready (rs := [12]) (by kernel_rfl) (by simp) ?_
          refine AllReady.cons rfl (fun K hK => ?_) AllReady.nil
          have S10 := S9.out.grow hb10
          have hl8 : (stp W bk').length = 8 := stp_length _ _ HBL.out.1
          have hz8 : (U (stp W bk')).size = 8 := by rw [U_size]; exact hl8
          refine step_stm _ rfl _ _ _ rfl g 0 (U (stp W bk')) rfl rfl (by rw [hz8]; exact S10.there) (by rw [hz8]; exact size_w8) (U_one _) ?_
          refine hK _ _ ?_
          clear hK K
          refine wpAny_done (by kernel_rfl) ?_ _
          simp only [Act.put, List.getElem_toArray, List.getElem_cons_zero, List.getElem_cons_succ]
          have S11 := S10.stepped hl8
          have G11 : w.grownBy (w10.setCells g 0 (U (stp W bk')).toList) (some g) := grown_trans (grown_trans G9.out (below_grown hb10 _)) (grown_setCells _ _ _ _)
          have L11 := (L9.out.grow hb10).kept (grown_setCells g (U (stp W bk')).toList 0 w10) hg
          have R11 := (R10.out.grow hb10).kept (grown_setCells g (U (stp W bk')).toList 0 w10) (fun _ => HV3.out)
          have T11 := TT.out _ S11
          clear S10 hl8 hz8 S11
          generalize w10.setCells g 0 (U (stp W bk')).toList = w11 at *
          go_wp2
          exact END.out _ _ rfl R11 T11 L11 G11
      · obtain ⟨fu, hfu⟩ : ∃ fu : Nat, fu = u % 64 := ⟨_, rfl⟩
        rw [← hfu] at HF2
        have hne : ((fu : Int) == 0) = false := beq_eq_false_iff_ne.2 (by have := HU.out; have := Hf.out; have := Hm.out; omega)
        have hne2 : ¬ (fu = 0) := by have := HU.out; have := Hf.out; have := Hm.out; omega
        have TT : Hid (Txt (w8.setCell ⟨g, 72, none⟩ (.int .i64 (u : Int))) g ((l ++ bs.take k) ++ (bs.drop k).take m)) := by
          have h1 := some_part (l ++ bs.take k) bk ((bs.drop k).take m) f m (by rw [HTL.out, ← Ht.out]; exact Hf.out) HYl.out HBL.out.2.1 (by rw [HTL.out, ← Ht.out, Hf.out]; exact HTK.out) (by have := Hm.out; have := Hf.out; omega)
          refine ⟨_, ?_, h1.2, HBB.out⟩
          rw [h1.1, HTL.out, ← Ht.out, ← HW.out, HUL.out]
          exact S9.out
        clear hfu
        have hif : (if c' = m then a' else Option.map (fun x => x.add m) a') = a2 := by rw [HA.out, movedTo]
        go_wp2_with (go_at_call 122; refine (HF2.out _ S9.out.count).mono ?_; rintro e w9 ⟨rfl, hw9⟩; rw [hw9]; clear hw9)
        exact END.out _ _ rfl R10.out TT.out L9.out G9.out
    · have hkn : k = bs.length := by omega
      have HKN := hidden hkn
      have h0 : bs.length - k = 0 := by omega
      clear hkn
      go_wp2
      go_ret
      refine ⟨rfl, ?_, hL.out, hG.out⟩
      have := hT.out
      rw [HKN.out, List.take_of_length_le (Nat.le_refl _)] at this
      exact this

end Go.Proofs.YtnnmfgnommbmkaaGreatDoor

namespace Go.Proofs.YtnnmfgnommbmkaaGreatDoor
set_option maxRecDepth 20000
open Go.RowKit

theorem Reads.block {w : World} {v : Value} {zs : List Int} (h : Reads w v zs) (hp : 0 < zs.length) : ∃ k, v.ownBlock = some k ∧ k < w.heap.size := by
  obtain ⟨a, cap, rfl, h1, h2, h3, h4⟩ := h
  obtain ⟨b, off, rfl, hc⟩ := h4 hp
  exact ⟨b, rfl, block_lt_of_cell (hc 0 hp)⟩
theorem Reads.apart {w : World} {v : Value} {zs : List Int} {g : Nat} (h : Reads w v zs) (hg : w.heap.size ≤ g) : 0 < zs.length → v.ownBlock ≠ some g := by
  intro hp
  obtain ⟨k, h1, h2⟩ := h.block hp
  rw [h1]
  intro e
  injection e with e
  omega

set_option maxHeartbeats 2000000 in
set_option maxRecDepth 10000 in
theorem sum_at (g : Nat) (l : List Int) (w : World) (hT : Txt w g l) (hL : Laid w) (hlen : l.length ≤ 576460752303423488) :
    Calls Tryz.prog 103 #[.pointer (some ⟨g, 0, none⟩)] w fun e w' => e = .returned (.agg (B (dig l))) ∧ Below w.heap.size w w' := by
  obtain ⟨bk, hSt, htk, hby⟩ := hT
  have hm := hSt.made
  have HS := hidden hSt
  have HTK := hidden htk
  have HBY := hidden hby
  have HL := hidden hL
  have HZ : Hid ((Cs (eat l (l.length / 64)) bk (l.length : Int) true).size = 74) := Cs_size _ _ _ _ hSt.2.1 hSt.2.2.1
  clear hSt htk hby hL
  go_enter Tryz.func103, Tryz.ntmps103
  go_wp2_with (first | (refine wpList_al _ rfl _ rfl _ zero_hash ?_; intro w1 g1 hg1 hl1 B1 b1; have hm1 := (HS.out.grow b1).made))
  refine (good_at g true _ hm1).mono ?_
  rintro e w' ⟨rfl, hw'⟩
  rw [hw']
  clear hw' hm1 hm
  have S1 := HS.out.grow b1
  have L1 := HL.out.grow b1
  go_wp2_with (first | (refine wpList_load_row rfl _ _ rfl g rfl _ (Cs (eat l (l.length / 64)) bk (l.length : Int) true) _ _ S1.1 Tryz.underlying174 rfl (by rw [HZ.out]; exact size_st) ?_) | (refine wpList_al _ rfl _ rfl _ (zero_of_info zero_st).1 ?_; intro w2 g2 hg2 hl2 B2 b2) | (refine wpList_sto _ rfl _ _ _ rfl g2 _ _ rfl rfl B2 (by rw [HZ.out]; exact size_st) (by rw [HZ.out]; rfl) (Cs_one _ _ _ _) ?_; intro w3 B3 gg3; have hne : g ≠ g2 := Nat.ne_of_lt (Nat.lt_of_lt_of_le S1.1.lt hg2); have hc3 := ((S1.grow b2).kept gg3 hne).count))
  have n12 : g1 ≠ g2 := by omega
  have B1' := (B1.grow b2).kept gg3 n12
  have L3 := (L1.grow b2).kept gg3 (by have := L1.1; omega)
  have T3 : Txt w3 g2 l := ⟨bk, ⟨B3, HS.out.2⟩, HTK.out, HBY.out⟩
  have c2 := b1.trans (b2.mono b1.size)
  have c3 := below_row c2 gg3 (by have := b1.size; omega)
  clear B1 B2 B3 S1 L1 hc3 gg3 hne
  refine (padding_any l.length w3 (by omega)).mono ?_
  rintro e w4 ⟨v, sp, rfl, hO, b4⟩
  have c4 := c3.trans (b4.mono c3.size)
  have T4 := T3.grow b4
  have L4 := L3.grow b4
  have B4 := B1'.grow b4
  have hv2 : 0 < (pad l.length).length → v.ownBlock ≠ some g2 := by
    intro _ e
    have := (hO.lt g2 e).1
    have := T3.lt
    omega
  have hR4 := hO.reads
  have HPL : Hid ((pad l.length).length ≤ 72) := by
    show _ ≤ _
    rw [pad_length]
    omega
  go_wp2_with fail
  refine (write_any g2 v l (pad l.length) w4 T4 hR4 hv2 L4 (by have := L3.1; have := HL.out.1; have := b1.size; omega) (by have := HPL.out; omega)).mono ?_
  rintro e w5 ⟨rfl, T5, L5, g5⟩
  have c5 := below_row c4 g5 (by have := b1.size; omega)
  have B5 := B4.kept g5 n12
  obtain ⟨bk5, S5, _, _⟩ := T5
  have HE : Hid (out (eat (l ++ pad l.length) ((l ++ pad l.length).length / 64)) = dig l) := by
    show _ = _
    rw [dig, List.length_append]
  have hW8 : (eat (l ++ pad l.length) ((l ++ pad l.length).length / 64)).length = 8 := eat_length _ _
  generalize eat (l ++ pad l.length) ((l ++ pad l.length).length / 64) = W at *
  have HS5 := hidden S5
  have HW8 := hidden hW8
  have HU8 : Hid ((U W).toList.length = 8) := by rw [U_toList, List.length_map]; exact hW8
  clear S5 hW8 hR4 hO T3 T4 L3 L4 HPL hv2
  go_wp2_with (first | (refine wpList_load_mid rfl _ _ rfl g2 0 rfl (U W).toList _ HS5.out.words Tryz.underlying171 rfl (by rw [HU8.out]; exact size_w8) ?_))
  refine (bytesOf_any W w5 HW8.out).mono ?_
  rintro e w6 ⟨rfl, b6⟩
  have B6 := B5.grow b6
  have HSZ : Hid ((B (out W)).size = 32) := by rw [B_size, out_length, HW8.out]; exact rfl
  go_wp2_with (first | (refine wpList_sto _ rfl _ _ _ rfl g1 _ _ rfl rfl B6 (by rw [HSZ.out]; exact size_hash) (by rw [HSZ.out, B_size]; simp) (B_one _) ?_; intro w7 B7 g7))
  exact bodyPost_ret (v := .agg (B (out W))) (results_cell_row rfl _ _ g1 _ _ _ _ rfl B7 Tryz.underlying25 rfl (by rw [HSZ.out]; exact size_hash)) rfl ⟨by rw [HE.out], below_row (c5.trans (b6.mono c5.size)) g7 hg1⟩

end Go.Proofs.YtnnmfgnommbmkaaGreatDoor

namespace Go.Proofs.YtnnmfgnommbmkaaGreatDoor
set_option maxRecDepth 20000
open Go.RowKit

end Go.Proofs.YtnnmfgnommbmkaaGreatDoor
