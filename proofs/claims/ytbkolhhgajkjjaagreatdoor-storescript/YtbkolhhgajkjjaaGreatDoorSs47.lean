/- A law's call of one store (do), as a contract: whatever it is, a store is left. -/
import Derived.Test.YtbkolhhgajkjjaaGreatDoorSs01
import Derived.Test.YtbkolhhgajkjjaaGreatDoorSs46
import Derived.Test.YtbkolhhgajkjjaaGreatDoorSs41
import Derived.Test.YtbkolhhgajkjjaaGreatDoorSs43
import Derived.Test.YtbkolhhgajkjjaaGreatDoorSs31
import Derived.Test.YtbkolhhgajkjjaaGreatDoorSs33
import Derived.Test.YtbkolhhgajkjjaaGreatDoorSs24
import Derived.Test.YtbkolhhgajkjjaaGreatDoorSs30
namespace Go.Proofs.YtbkolhhgajkjjaaGreatDoor
set_option maxRecDepth 20000
open Go.RowKit

def Hx (w0 w : World) (X : List (Nat × Obj)) (g gs room : Nat) (cs : List (Nat × Ce)) (fr : List Nat) : Prop := (∃ vp vf, Stm w g gs vp vf room cs fr ∧ (∀ k ∈ stB g gs vp vf cs, w0.heap.size ≤ k) ∧ Below w0.heap.size w0 w ∧ ∀ x ∈ X, w.heap[x.1]? = some x.2 ∧ x.1 ∉ stB g gs vp vf cs) ∧ Wf cs []
end Go.Proofs.YtbkolhhgajkjjaaGreatDoor

namespace Go.Proofs.YtbkolhhgajkjjaaGreatDoor
set_option maxRecDepth 20000
open Go.RowKit

section
variable {w0 w w1 w2 : World} {S : List Nat} {g gs q room : Nat} {cs : List (Nat × Ce)} {fr : List Nat}

theorem P7.rebase (h : P7 w S w g gs q room cs fr) (hb : Below w.heap.size w w1) : P7 w1 S w1 g gs q room cs fr := by
  obtain ⟨ss, ⟨vp, vf, vp2, vf2, s, d, ap, m, n1, n2⟩, R, W⟩ := h
  refine ⟨ss, ⟨vp, vf, vp2, vf2, s.grow hb, d.grow hb, ap, Mod.refl _ _, fun k hk => ?_, fun k hk => ?_⟩, R, W⟩
  · rcases n1 k hk with e | e
    · exact .inl e
    · have := s.lts k hk
      omega
  · rcases n2 k hk with e | e
    · exact .inl e
    · have := d.lts k hk
      omega
theorem P7.back (hb : Below w.heap.size w w1) (h : P7 w1 S w2 g gs q room cs fr) : P7 w S w2 g gs q room cs fr := by
  obtain ⟨ss, ⟨vp, vf, vp2, vf2, s, d, ap, m, n1, n2⟩, R, W⟩ := h
  refine ⟨ss, ⟨vp, vf, vp2, vf2, s, d, ap, (Mod.of_below hb S).trans' m, fun k hk => ?_, fun k hk => ?_⟩, R, W⟩
  · rcases n1 k hk with e | e
    · exact .inl e
    · exact .inr (Nat.le_trans hb.size e)
  · rcases n2 k hk with e | e
    · exact .inl e
    · exact .inr (Nat.le_trans hb.size e)
theorem P7.over {w3 : World} {b : Nat} (hb : Below w.heap.size w w1) (h : P7 w1 S w2 g gs q room cs fr) (h1 : w.heap.size ≤ b) (h2 : b < w1.heap.size) (h3 : b ∉ S) (hg : w2.grownBy w3 (some b)) : P7 w S w3 g gs q room cs fr := by
  have m3 : Mod [b] w2 w3 := Mod.of_some hg (by simp)
  have hb' := P7.back hb h
  obtain ⟨ss, ⟨vp, vf, vp2, vf2, s, d, ap, m, n1, n2⟩, R, W⟩ := h
  have a1 : ∀ k ∈ stB g gs vp vf cs, k ∉ [b] := fun k hk e => by
    obtain rfl : k = b := by simpa using e
    rcases n1 k hk with e | e
    · exact h3 e
    · omega
  have a2 : ∀ k ∈ rsB q vp2 vf2 ss, k ∉ [b] := fun k hk e => by
    obtain rfl : k = b := by simpa using e
    rcases n2 k hk with e | e
    · exact h3 e
    · omega
  refine ⟨ss, ⟨vp, vf, vp2, vf2, s.mod m3 a1, d.mod m3 a2, ap, hb'.mod.trans (fun k hk => .inr ?_) m3, fun k hk => ?_, fun k hk => ?_⟩, R, W⟩
  · obtain rfl : k = b := by simpa using hk
    exact h1
  · rcases n1 k hk with e | e
    · exact .inl e
    · exact .inr (Nat.le_trans hb.size e)
  · rcases n2 k hk with e | e
    · exact .inl e
    · exact .inr (Nat.le_trans hb.size e)

theorem look_p7 (h : P7 w0 S w g gs q room cs fr) (h5 : room ≤ 5000) (hL : Laid w) (x : Int) (deep : Bool) (hd : deep = true → room ≤ 60) : Calls Tryz.prog 33 #[.pointer (some ⟨g, 0, none⟩), .pointer (some ⟨q, 0, none⟩), .int .i64 x, .bool deep] w fun e w' => e = .returned (.bool true) ∧ Below w.heap.size w w' := by
  have V := h.vw
  have hl := h.inv.lenC
  obtain ⟨ss, ⟨vp, vf, vp2, vf2, s, d, ap, m, n1, n2⟩, R, W⟩ := h
  exact look7 V d R W hL (by omega) x deep (fun e => by have := hd e; omega)
theorem same_p7 (h : P7 w0 S w g gs q room cs fr) (h5 : room ≤ 5000) (hL : Laid w) (deep : Bool) (hd : deep = true → room ≤ 60) : Calls Tryz.prog 11 #[.pointer (some ⟨g, 0, none⟩), .pointer (some ⟨q, 0, none⟩), .bool deep] w fun e w' => e = .returned (.bool true) ∧ Below w.heap.size w w' := by
  have hl := h.inv.lenC
  obtain ⟨ss, ⟨vp, vf, vp2, vf2, s, d, ap, m, n1, n2⟩, R, W⟩ := h
  exact same7 s d R W hL (by omega) deep (fun e => by have := hd e; omega)
end

theorem Kq.row {S : List Nat} {w : World} {b : Nat} {zs : List Int} (h : Row w b zs) (hn : b ∉ S) : Kq S w (fun w' => Row w' b zs) := fun _ m => h.of_block (m.block b h.lt hn)

def ActPost7 (w0 : World) (S : List Nat) (g gs q room : Nat) (e : Ending) (w' : World) : Prop := e = .returned (.bool true) ∧ ∃ cs fr, P7 w0 S w' g gs q room cs fr

theorem lent_own7 {w : World} {b : Nat} {zs : List Int} (h : Row w b (zs ++ marks zs.length)) (hb : Bytes zs) (hl : zs.length ≤ 2000) : Own 0 w (.slice (some ⟨b, 0, none⟩) zs.length (zs.length + 5)) zs (marks zs.length) := by
  have h1 := Own.mk (base := 0) hb (marks_bytes zs.length) (by rw [marks_length]; simp only [maxLen]; omega) (Nat.zero_le _) h
  rw [marks_length] at h1
  exact h1

def Lent7 (w : World) (S : List Nat) (g gs q room : Nat) (cs : List (Nat × Ce)) (fr : List Nat) (bs : List Int) (b : Nat) (w2 : World) : Prop := Below w.heap.size w w2 ∧ w.heap.size ≤ b ∧ b < w2.heap.size ∧ b ∉ S ∧ Kq S w2 (fun w' => Own 0 w' (.slice (some ⟨b, 0, none⟩) bs.length (bs.length + 5)) bs (marks bs.length)) ∧ Kq S w2 (fun w' => Row w' b (bs ++ marks bs.length)) ∧ P7 w2 S w2 g gs q room cs fr
theorem lent7 {w w1 : World} {S : List Nat} {g gs q room : Nat} {cs : List (Nat × Ce)} {fr : List Nat} {v : Value} {bs : List Int} (HS : ∀ b, w.heap.size ≤ b → b ∉ S) (h : P7 w S w g gs q room cs fr) (hb : Below w.heap.size w w1) (hr : Kq S w fun w' => Reads w' v bs) (hl : bs.length ≤ 2000) : Calls Tryz.prog 22 #[v] w1 fun e w2 => ∃ b, e = .returned (.slice (some ⟨b, 0, none⟩) bs.length (bs.length + 5)) ∧ Lent7 w S g gs q room cs fr bs b w2 ∧ Below w1.heap.size w1 w2 := by
  have hr1 := (hr.grow hb).now
  have hby : Bytes bs := by obtain ⟨_, _, _, _, _, hb, _⟩ := hr1; exact hb
  refine (lent_any v bs w1 hr1 (by omega)).mono ?_
  rintro e w2 ⟨rfl, r2, b2, s2⟩
  have hn := HS _ hb.size
  have k := Kq.row r2 hn
  exact ⟨_, rfl, ⟨grow_trans hb b2, hb.size, by omega, hn, k.imp fun w' _ r => lent_own7 r hby hl, k, h.rebase (grow_trans hb b2)⟩, b2⟩

set_option maxHeartbeats 8000000 in
theorem act7_leaf {w : World} {S : List Nat} {g gs q room : Nat} {cs : List (Nat × Ce)} {fr : List Nat} {P : Ending → World → Prop} {K : List Int} {v : Value} {bs : List Int} {d x y : Int} (HPost : Hid (∀ w' cs' fr', P7 w S w' g gs q room cs' fr' → P (.returned (.bool true)) w')) (HS : Hid (∀ b, w.heap.size ≤ b → b ∉ S)) (HR : Hid (Kq S w fun w' => Reads w' v bs)) (HLa : Hid (Kq S w Laid)) (HH : Hid (P7 w S w g gs q room cs fr)) (HM : Hid (bs.length ≤ 2000)) (HRM : Hid (room ≤ 60)) (HKL : Hid (K.length = 32)) (HKK : Hid (Key K)) (HKZ : Hid ((Tryz.prog.info? 31).map (·.size) = some (K.map (Value.int .u8)).length)) : Calls Tryz.prog 10 #[.pointer (some ⟨g, 0, none⟩), .pointer (some ⟨q, 0, none⟩), .agg (azL 0 K v d x y).toArray] w P := by
  have u0 := (⟨HR, HM, HLa, HRM, HKK, HKZ⟩ : _ ∧ _ ∧ _ ∧ _ ∧ _ ∧ _)
  clear u0
  have HMb : Hid (bs.length ≤ 140737488355328) := (by have := HM.out; show _ ≤ _; omega)
  have HR5 : Hid (room ≤ 5000) := (by have := HRM.out; show _ ≤ _; omega)
  go_enter Tryz.func10, Tryz.ntmps10
  go_wp2_with (first
    | ((with_reducible refine at_bxd 5 ?_); refine wpList_bx _ rfl _ _ rfl _ rfl ?_; intro w1 b3 hg3 hl3 B3 q1; have HQ1 := hidden q1; have HB1 := hidden (Kq.blk B3 (HS.out b3 hg3)); have HH1 := hidden (HH.out.rebase q1); obtain ⟨f0, f33, f34, f35, f36⟩ := act_cells B3 HKL.out; clear hg3 hl3 B3 q1)
    | (go_at_call 22; refine (lent7 HS.out HH.out HQ1.out HR.out HM.out).mono ?_; rintro e w2 ⟨bl, rfl, L2, b2⟩; have HL2 := hidden L2; have HB2 := hidden (HB1.out.grow b2); obtain ⟨z20, z233, z234, z235, z236⟩ := act_cells HB2.out.now HKL.out; clear L2 b2)
    | ((with_reducible refine at_ldd 35 34 ?_); refine wpList_load_mid rfl _ _ rfl b3 1 rfl (K.map (Value.int .u8)) _ (act_key HB2.out.now) Tryz.underlying31 rfl HKZ.out ?_)
    | (go_at_call 23; refine (leaf7 HL2.out.2.2.2.2.2.2 HR5.out K _ v bs (HL2.out.2.2.2.2.1.now.reads) (HR.out.grow HL2.out.1) HKK.out ((HLa.out.grow HL2.out.1).now) HMb.out).mono ?_; rintro e w3 ⟨x3, e3, cs3, fr3, rfl, t3⟩; have HT3 := hidden t3; obtain ⟨z30, z333, z334, z335, z336⟩ := act_cells (t3.kq HB2.out) HKL.out; clear t3)
    | ((with_reducible refine at_ldd 43 42 ?_); refine wpList_load_mid rfl _ _ rfl b3 1 rfl (K.map (Value.int .u8)) _ (act_key (HT3.out.kq HB2.out)) Tryz.underlying31 rfl HKZ.out ?_)
    | (go_at_call 24; refine HT3.out.go.mono ?_; rintro e w4 ⟨rfl, t4⟩; have HT4 := hidden t4; obtain ⟨z40, z433, z434, z435, z436⟩ := act_cells (t4.kq HB2.out) HKL.out; clear t4)
    | (go_at_call 25; refine (kept_true _ v bs _ (HT4.out.kq HL2.out.2.2.2.2.2.1) (HT4.out.kq (HR.out.grow HL2.out.1)) HMb.out).mono ?_; rintro e w5 ⟨rfl, b5⟩; have HT5 := hidden (HT4.out.grow b5); clear b5)
    | (go_at_call 26; refine (over_own 0 _ bs _ _ (HT5.out.kq HL2.out.2.2.2.2.1)).mono ?_; rintro e w6 ⟨rfl, -, g6, -⟩; have HT6 := hidden (HT5.out.over HL2.out.1 HL2.out.2.1 HL2.out.2.2.1 HL2.out.2.2.2.1 g6); clear g6))
  exact HPost.out _ _ _ HT6.out

set_option maxHeartbeats 8000000 in
theorem act7_inner {w : World} {S : List Nat} {g gs q room : Nat} {cs : List (Nat × Ce)} {fr : List Nat} {P : Ending → World → Prop} {K : List Int} {v : Value} {bs : List Int} {d x y : Int} (HPost : Hid (∀ w' cs' fr', P7 w S w' g gs q room cs' fr' → P (.returned (.bool true)) w')) (HS : Hid (∀ b, w.heap.size ≤ b → b ∉ S)) (HR : Hid (Kq S w fun w' => Reads w' v bs)) (HLa : Hid (Kq S w Laid)) (HH : Hid (P7 w S w g gs q room cs fr)) (HM : Hid (bs.length ≤ 2000)) (HRM : Hid (room ≤ 60)) (HKL : Hid (K.length = 32)) (HKK : Hid (Key K)) (HKZ : Hid ((Tryz.prog.info? 31).map (·.size) = some (K.map (Value.int .u8)).length)) : Calls Tryz.prog 10 #[.pointer (some ⟨g, 0, none⟩), .pointer (some ⟨q, 0, none⟩), .agg (azL 1 K v d x y).toArray] w P := by
  have u0 := (⟨HR, HM, HLa, HRM, HKK, HKZ⟩ : _ ∧ _ ∧ _ ∧ _ ∧ _ ∧ _)
  clear u0
  have HR5 : Hid (room ≤ 5000) := (by have := HRM.out; show _ ≤ _; omega)
  go_enter Tryz.func10, Tryz.ntmps10
  go_wp2_with (first
    | ((with_reducible refine at_bxd 5 ?_); refine wpList_bx _ rfl _ _ rfl _ rfl ?_; intro w1 b3 hg3 hl3 B3 q1; have HQ1 := hidden q1; have HB1 := hidden (Kq.blk B3 (HS.out b3 hg3)); have HH1 := hidden (HH.out.rebase q1); obtain ⟨f0, f33, f34, f35, f36⟩ := act_cells B3 HKL.out; clear hg3 hl3 B3 q1)
    | (go_at_call 29; refine (inner7 HH1.out HR5.out d x y ((HLa.out.grow HQ1.out).now)).mono ?_; rintro e w3 ⟨x3, e3, cs3, fr3, rfl, t3⟩; have HT3 := hidden t3; obtain ⟨z30, z333, z334, z335, z336⟩ := act_cells (t3.kq HB1.out) HKL.out; clear t3)
    | (go_at_call 30; refine HT3.out.go.mono ?_; rintro e w4 ⟨rfl, t4⟩; have HT4 := hidden (P7.back HQ1.out t4); clear t4))
  exact HPost.out _ _ _ HT4.out

set_option maxHeartbeats 8000000 in
theorem act7_drop {w : World} {S : List Nat} {g gs q room : Nat} {cs : List (Nat × Ce)} {fr : List Nat} {P : Ending → World → Prop} {K : List Int} {v : Value} {bs : List Int} {d x y : Int} (HPost : Hid (∀ w' cs' fr', P7 w S w' g gs q room cs' fr' → P (.returned (.bool true)) w')) (HS : Hid (∀ b, w.heap.size ≤ b → b ∉ S)) (HR : Hid (Kq S w fun w' => Reads w' v bs)) (HLa : Hid (Kq S w Laid)) (HH : Hid (P7 w S w g gs q room cs fr)) (HM : Hid (bs.length ≤ 2000)) (HRM : Hid (room ≤ 60)) (HKL : Hid (K.length = 32)) (HKK : Hid (Key K)) (HKZ : Hid ((Tryz.prog.info? 31).map (·.size) = some (K.map (Value.int .u8)).length)) : Calls Tryz.prog 10 #[.pointer (some ⟨g, 0, none⟩), .pointer (some ⟨q, 0, none⟩), .agg (azL 3 K v d x y).toArray] w P := by
  have u0 := (⟨HR, HM, HLa, HRM, HKK, HKZ⟩ : _ ∧ _ ∧ _ ∧ _ ∧ _ ∧ _)
  clear u0
  go_enter Tryz.func10, Tryz.ntmps10
  go_wp2_with (first
    | ((with_reducible refine at_bxd 5 ?_); refine wpList_bx _ rfl _ _ rfl _ rfl ?_; intro w1 b3 hg3 hl3 B3 q1; have HQ1 := hidden q1; have HB1 := hidden (Kq.blk B3 (HS.out b3 hg3)); have HH1 := hidden (HH.out.rebase q1); obtain ⟨f0, f33, f34, f35, f36⟩ := act_cells B3 HKL.out; clear hg3 hl3 B3 q1)
    | (go_at_call 31; refine (drop7 HH1.out x).mono ?_; rintro e w3 ⟨x3, e3, cs3, fr3, rfl, t3, -⟩; have HT3 := hidden t3; obtain ⟨z30, z333, z334, z335, z336⟩ := act_cells (t3.kq HB1.out) HKL.out; clear t3)
    | (go_at_call 32; refine HT3.out.go.mono ?_; rintro e w4 ⟨rfl, t4⟩; have HT4 := hidden (P7.back HQ1.out t4); clear t4))
  exact HPost.out _ _ _ HT4.out

set_option maxHeartbeats 8000000 in
theorem act7_hold {w : World} {S : List Nat} {g gs q room : Nat} {cs : List (Nat × Ce)} {fr : List Nat} {P : Ending → World → Prop} {K : List Int} {v : Value} {bs : List Int} {d x y : Int} (HPost : Hid (∀ w' cs' fr', P7 w S w' g gs q room cs' fr' → P (.returned (.bool true)) w')) (HS : Hid (∀ b, w.heap.size ≤ b → b ∉ S)) (HR : Hid (Kq S w fun w' => Reads w' v bs)) (HLa : Hid (Kq S w Laid)) (HH : Hid (P7 w S w g gs q room cs fr)) (HM : Hid (bs.length ≤ 2000)) (HRM : Hid (room ≤ 60)) (HKL : Hid (K.length = 32)) (HKK : Hid (Key K)) (HKZ : Hid ((Tryz.prog.info? 31).map (·.size) = some (K.map (Value.int .u8)).length)) : Calls Tryz.prog 10 #[.pointer (some ⟨g, 0, none⟩), .pointer (some ⟨q, 0, none⟩), .agg (azL 2 K v d x y).toArray] w P := by
  have u0 := (⟨HR, HM, HLa, HRM, HKK, HKZ⟩ : _ ∧ _ ∧ _ ∧ _ ∧ _ ∧ _)
  clear u0
  go_enter Tryz.func10, Tryz.ntmps10
  go_wp2_with (first
    | ((with_reducible refine at_bxd 5 ?_); refine wpList_bx _ rfl _ _ rfl _ rfl ?_; intro w1 b3 hg3 hl3 B3 q1; have HQ1 := hidden q1; have HB1 := hidden (Kq.blk B3 (HS.out b3 hg3)); have HH1 := hidden (HH.out.rebase q1); obtain ⟨f0, f33, f34, f35, f36⟩ := act_cells B3 HKL.out; clear hg3 hl3 B3 q1))
  refine wp_region_held_drew (S := fun w' => Blk w' b3 34 (azL 2 K v d x y).toArray) (by kernel_rfl) (HB1.out.now.grow (below_drewN (Below.refl _ _) 1)) (fun hHeld => ?_)
  refine tkp 0 (.pointer (some ⟨g, 0, none⟩)) hHeld ?_
  simp only [Act.put, zq1, zq2, zq4, zq5, zq6]
  refine tkp 1 (.pointer (some ⟨b3, 35, none⟩)) hHeld ?_
  simp only [Act.put, zq1, zq2, zq3, zq4, zq5, zq6]
  refine tkg 2 (.int .i64 x) rfl (Or.inl ⟨by rfl, fun w hS => by (have zz := act_cells hS HKL.out; have zc := zz.2.2.2.1; go_simp)⟩) hHeld ?_
  simp only [Act.put, zq1, zq2, zq3, zq4, zq5, zq6]
  refine tkp 4 (.pointer (some ⟨q, 0, none⟩)) hHeld ?_
  simp only [Act.put, zq1, zq2, zq3, zq4, zq5, zq6]
  refine tkp 5 (.pointer (some ⟨b3, 35, none⟩)) hHeld ?_
  simp only [Act.put, zq1, zq2, zq3, zq4, zq5, zq6]
  refine tkg 6 (.int .i64 x) rfl (Or.inl ⟨by rfl, fun w hS => by (have zz := act_cells hS HKL.out; have zc := zz.2.2.2.1; go_simp)⟩) hHeld ?_
  simp only [Act.put, zq1, zq2, zq3, zq4, zq5, zq6]
  refine wpAnyH_ready (rs := [3]) (by kernel_rfl) (by simp) ?_
  refine AllReadyH.cons rfl (fun KQ hK => ?_) AllReadyH.nil
  go_simp
  refine (hold7 (HH1.out.grow (below_drewN (Below.refl _ _) 1)) x).mono ?_
  rintro e w3 ⟨e3, cs3, fr3, rfl, t3, -⟩
  refine hK.out _ _ (t3.kq HB1.out) (fun hHeld => ?_)
  clear hK KQ
  refine wpAnyH_ready (rs := [7]) (by kernel_rfl) (by simp) ?_
  refine AllReadyH.cons rfl (fun KQ hK => ?_) AllReadyH.nil
  go_simp
  refine t3.go.mono ?_
  rintro e w4 ⟨rfl, t4⟩
  refine hK.out _ _ (t4.kq HB1.out) (fun hHeld => ?_)
  clear hK KQ
  refine tkp 8 (.bool true) hHeld ?_
  simp only [Act.put, zq1, zq2, zq3, zq4, zq5, zq6]
  refine tkp 9 (.bool true) hHeld ?_
  simp only [Act.put, zq1, zq2, zq3, zq4, zq5, zq6]
  refine wpAnyH_done (by kernel_rfl) ?_ _
  go_wp2
  exact HPost.out _ _ _ (P7.back HQ1.out t4)

set_option maxHeartbeats 8000000 in
theorem act7_five {w : World} {S : List Nat} {g gs q room : Nat} {cs : List (Nat × Ce)} {fr : List Nat} {P : Ending → World → Prop} {K : List Int} {v : Value} {bs : List Int} {d x y : Int} (HPost : Hid (∀ w' cs' fr', P7 w S w' g gs q room cs' fr' → P (.returned (.bool true)) w')) (HS : Hid (∀ b, w.heap.size ≤ b → b ∉ S)) (HR : Hid (Kq S w fun w' => Reads w' v bs)) (HLa : Hid (Kq S w Laid)) (HH : Hid (P7 w S w g gs q room cs fr)) (HM : Hid (bs.length ≤ 2000)) (HRM : Hid (room ≤ 60)) (HKL : Hid (K.length = 32)) (HKK : Hid (Key K)) (HKZ : Hid ((Tryz.prog.info? 31).map (·.size) = some (K.map (Value.int .u8)).length)) : Calls Tryz.prog 10 #[.pointer (some ⟨g, 0, none⟩), .pointer (some ⟨q, 0, none⟩), .agg (azL 5 K v d x y).toArray] w P := by
  have u0 := (⟨HR, HM, HLa, HRM, HKK, HKZ⟩ : _ ∧ _ ∧ _ ∧ _ ∧ _ ∧ _)
  clear u0
  have HR5 : Hid (room ≤ 5000) := (by have := HRM.out; show _ ≤ _; omega)
  go_enter Tryz.func10, Tryz.ntmps10
  go_wp2_with (first
    | ((with_reducible refine at_bxd 5 ?_); refine wpList_bx _ rfl _ _ rfl _ rfl ?_; intro w1 b3 hg3 hl3 B3 q1; have HQ1 := hidden q1; have HB1 := hidden (Kq.blk B3 (HS.out b3 hg3)); have HH1 := hidden (HH.out.rebase q1); obtain ⟨f0, f33, f34, f35, f36⟩ := act_cells B3 HKL.out; clear hg3 hl3 B3 q1))
  refine wp_region_held_drew (S := fun w' => Blk w' b3 34 (azL 5 K v d x y).toArray) (by kernel_rfl) (HB1.out.now.grow (below_drewN (Below.refl _ _) 1)) (fun hHeld => ?_)
  refine tkp 0 (.pointer (some ⟨g, 0, none⟩)) hHeld ?_
  simp only [Act.put, zq1, zq2, zq4, zq5, zq6]
  refine tkp 1 (.pointer (some ⟨b3, 35, none⟩)) hHeld ?_
  simp only [Act.put, zq1, zq2, zq3, zq4, zq5, zq6]
  refine tkg 2 (.int .i64 x) rfl (Or.inl ⟨by rfl, fun w hS => by (have zz := act_cells hS HKL.out; have zc := zz.2.2.2.1; go_simp)⟩) hHeld ?_
  simp only [Act.put, zq1, zq2, zq3, zq4, zq5, zq6]
  refine tkp 4 (.pointer (some ⟨q, 0, none⟩)) hHeld ?_
  simp only [Act.put, zq1, zq2, zq3, zq4, zq5, zq6]
  refine tkp 5 (.pointer (some ⟨b3, 35, none⟩)) hHeld ?_
  simp only [Act.put, zq1, zq2, zq3, zq4, zq5, zq6]
  refine tkg 6 (.int .i64 x) rfl (Or.inl ⟨by rfl, fun w hS => by (have zz := act_cells hS HKL.out; have zc := zz.2.2.2.1; go_simp)⟩) hHeld ?_
  simp only [Act.put, zq1, zq2, zq3, zq4, zq5, zq6]
  refine wpAnyH_ready (rs := [3]) (by kernel_rfl) (by simp) ?_
  refine AllReadyH.cons rfl (fun KQ hK => ?_) AllReadyH.nil
  go_simp
  refine (hold7 (HH1.out.grow (below_drewN (Below.refl _ _) 1)) x).mono ?_
  rintro e w3 ⟨e3, cs3, fr3, rfl, t3, -⟩
  refine hK.out _ _ (t3.kq HB1.out) (fun hHeld => ?_)
  clear hK KQ
  refine wpAnyH_ready (rs := [7]) (by kernel_rfl) (by simp) ?_
  refine AllReadyH.cons rfl (fun KQ hK => ?_) AllReadyH.nil
  go_simp
  refine t3.go.mono ?_
  rintro e w4 ⟨rfl, t4⟩
  refine hK.out _ _ (t4.kq HB1.out) (fun hHeld => ?_)
  clear hK KQ
  refine tkp 8 (.bool false) hHeld ?_
  simp only [Act.put, zq1, zq2, zq3, zq4, zq5, zq6]
  refine tkp 9 (.bool false) hHeld ?_
  simp only [Act.put, zq1, zq2, zq3, zq4, zq5, zq6]
  refine tkp 10 (.pointer (some ⟨g, 0, none⟩)) hHeld ?_
  simp only [Act.put, zq1, zq2, zq3, zq4, zq5, zq6]
  refine tkp 11 (.pointer (some ⟨b3, 36, none⟩)) hHeld ?_
  simp only [Act.put, zq1, zq2, zq3, zq4, zq5, zq6]
  refine tkg 12 (.int .i64 y) rfl (Or.inl ⟨by rfl, fun w hS => by (have zz := act_cells hS HKL.out; have zc := zz.2.2.2.2; go_simp)⟩) hHeld ?_
  simp only [Act.put, zq1, zq2, zq3, zq4, zq5, zq6]
  refine tkp 14 (.pointer (some ⟨q, 0, none⟩)) hHeld ?_
  simp only [Act.put, zq1, zq2, zq3, zq4, zq5, zq6]
  refine tkp 15 (.pointer (some ⟨b3, 36, none⟩)) hHeld ?_
  simp only [Act.put, zq1, zq2, zq3, zq4, zq5, zq6]
  refine tkg 16 (.int .i64 y) rfl (Or.inl ⟨by rfl, fun w hS => by (have zz := act_cells hS HKL.out; have zc := zz.2.2.2.2; go_simp)⟩) hHeld ?_
  simp only [Act.put, zq1, zq2, zq3, zq4, zq5, zq6]
  refine wpAnyH_ready (rs := [13]) (by kernel_rfl) (by simp) ?_
  refine AllReadyH.cons rfl (fun KQ hK => ?_) AllReadyH.nil
  go_simp
  refine (hold7 t4 y).mono ?_
  rintro e w5 ⟨e5, cs5, fr5, rfl, t5, -⟩
  refine hK.out _ _ (t5.kq HB1.out) (fun hHeld => ?_)
  clear hK KQ
  refine wpAnyH_ready (rs := [17]) (by kernel_rfl) (by simp) ?_
  refine AllReadyH.cons rfl (fun KQ hK => ?_) AllReadyH.nil
  go_simp
  refine t5.go.mono ?_
  rintro e w6 ⟨rfl, t6⟩
  refine hK.out _ _ (t6.kq HB1.out) (fun hHeld => ?_)
  clear hK KQ
  refine tkp 18 (.bool false) hHeld ?_
  simp only [Act.put, zq1, zq2, zq3, zq4, zq5, zq6]
  refine tkp 19 (.bool false) hHeld ?_
  simp only [Act.put, zq1, zq2, zq3, zq4, zq5, zq6]
  refine wpAnyH_done (by kernel_rfl) ?_ _
  have HT6 := hidden t6
  obtain ⟨z60, z633, z634, z635, z636⟩ := act_cells (t6.kq HB1.out) HKL.out
  clear t3 t4 t5 t6
  go_wp2_with (first
    | (go_at_call 29; refine (inner7 HT6.out HR5.out d x y (HT6.out.kq (HLa.out.grow HQ1.out))).mono ?_; rintro e w7 ⟨x7, e7, cs7, fr7, rfl, t7⟩; have HT7 := hidden t7; obtain ⟨z70, z733, z734, z735, z736⟩ := act_cells (t7.kq HB1.out) HKL.out; clear t7)
    | (go_at_call 30; refine HT7.out.go.mono ?_; rintro e w8 ⟨rfl, t8⟩; have HT8 := hidden (P7.back HQ1.out t8); clear t8))
  exact HPost.out _ _ _ HT8.out

set_option maxHeartbeats 8000000 in
theorem act7_look {w : World} {S : List Nat} {g gs q room : Nat} {cs : List (Nat × Ce)} {fr : List Nat} {P : Ending → World → Prop} {K : List Int} {v : Value} {bs : List Int} {d x y : Int} (HPost : Hid (∀ w' cs' fr', P7 w S w' g gs q room cs' fr' → P (.returned (.bool true)) w')) (HS : Hid (∀ b, w.heap.size ≤ b → b ∉ S)) (HR : Hid (Kq S w fun w' => Reads w' v bs)) (HLa : Hid (Kq S w Laid)) (HH : Hid (P7 w S w g gs q room cs fr)) (HM : Hid (bs.length ≤ 2000)) (HRM : Hid (room ≤ 60)) (HKL : Hid (K.length = 32)) (HKK : Hid (Key K)) (HKZ : Hid ((Tryz.prog.info? 31).map (·.size) = some (K.map (Value.int .u8)).length)) {k : Int} (k0 : (k == 0) = false) (k5 : (k == 5) = false) (k1 : (k == 1) = false) (k2 : (k == 2) = false) (k3 : (k == 3) = false) : Calls Tryz.prog 10 #[.pointer (some ⟨g, 0, none⟩), .pointer (some ⟨q, 0, none⟩), .agg (azL k K v d x y).toArray] w P := by
  have u0 := (⟨HR, HM, HLa, HRM, HKK, HKZ⟩ : _ ∧ _ ∧ _ ∧ _ ∧ _ ∧ _)
  clear u0
  have HR5 : Hid (room ≤ 5000) := (by have := HRM.out; show _ ≤ _; omega)
  go_enter Tryz.func10, Tryz.ntmps10
  go_wp2_with (first
    | ((with_reducible refine at_bxd 5 ?_); refine wpList_bx _ rfl _ _ rfl _ rfl ?_; intro w1 b3 hg3 hl3 B3 q1; have HQ1 := hidden q1; have HB1 := hidden (Kq.blk B3 (HS.out b3 hg3)); have HH1 := hidden (HH.out.rebase q1); obtain ⟨f0, f33, f34, f35, f36⟩ := act_cells B3 HKL.out; clear hg3 hl3 B3 q1)
    | (go_at_call 33; refine (look_p7 HH1.out HR5.out ((HLa.out.grow HQ1.out).now) x true (fun _ => HRM.out)).mono ?_; rintro e w3 ⟨rfl, b3'⟩; have HT3 := hidden (P7.back HQ1.out (HH1.out.grow b3')); clear b3'))
  exact HPost.out _ _ _ HT3.out

theorem act7_any {w0 w : World} {S0 : List Nat} {g gs q room : Nat} {cs : List (Nat × Ce)} {fr : List Nat} (h : P7 w0 S0 w g gs q room cs fr) (h60 : room ≤ 60) (a : Ac) (hK : Key a.K) (hr0 : Kq S0 w0 fun w' => Reads w' a.v a.bs) (hm : a.bs.length ≤ 2000) (hL0 : Kq S0 w0 Laid) : Calls Tryz.prog 10 #[.pointer (some ⟨g, 0, none⟩), .pointer (some ⟨q, 0, none⟩), .agg (acL a).toArray] w (ActPost7 w0 S0 g gs q room) := by
  obtain ⟨S, H, hkq, hS, hbk⟩ := h.from
  have HPost : Hid (∀ w' cs' fr', P7 w S w' g gs q room cs' fr' → ActPost7 w0 S0 g gs q room (.returned (.bool true)) w') := fun w' cs' fr' k => ⟨rfl, cs', fr', hbk _ _ _ k⟩
  have HS : Hid (∀ b, w.heap.size ≤ b → b ∉ S) := fun b hb e => by have := hS b e; omega
  have HR := hidden (hkq _ hr0)
  have HLa := hidden (hkq _ hL0)
  have HH := hidden H
  have HKZ : Hid ((Tryz.prog.info? 31).map (·.size) = some (a.K.map (Value.int .u8)).length) := by show _ = _; rw [List.length_map, hK.1]; exact size_path
  obtain ⟨k, K, v, bs, d, x, y⟩ := a
  have hsh : acL ⟨k, K, v, bs, d, x, y⟩ = azL k K v d x y := rfl
  rw [hsh]
  by_cases k0 : k = 0
  · subst k0
    exact act7_leaf HPost HS HR HLa HH hm h60 hK.1 hK HKZ
  · by_cases k5 : k = 5
    · subst k5
      exact act7_five HPost HS HR HLa HH hm h60 hK.1 hK HKZ
    · by_cases k1 : k = 1
      · subst k1
        exact act7_inner HPost HS HR HLa HH hm h60 hK.1 hK HKZ
      · by_cases k2 : k = 2
        · subst k2
          exact act7_hold HPost HS HR HLa HH hm h60 hK.1 hK HKZ
        · by_cases k3 : k = 3
          · subst k3
            exact act7_drop HPost HS HR HLa HH hm h60 hK.1 hK HKZ
          · exact act7_look HPost HS HR HLa HH hm h60 hK.1 hK HKZ (by simp [k0]) (by simp [k5]) (by simp [k1]) (by simp [k2]) (by simp [k3])

end Go.Proofs.YtbkolhhgajkjjaaGreatDoor

namespace Go.Proofs.YtbkolhhgajkjjaaGreatDoor
set_option maxRecDepth 20000
open Go.RowKit

def HdPost (hs : List Nat) (fin : Int) (w : World) (e : Ending) (w' : World) : Prop :=
  ∃ a c, e = .returned (.tuple #[.slice a hs.length c, .int .i64 fin, .int .i64 0]) ∧ w'.ownsRow w.heap.size 3 1 (.slice a hs.length c) hs.length (nats hs) ∧ Below w.heap.size w w'

def sLen : Value → Nat
  | .slice _ n _ => n
  | _ => 0

end Go.Proofs.YtbkolhhgajkjjaaGreatDoor
