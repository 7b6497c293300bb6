/- versions' Roots, as a contract: the roots, in the order of the names. -/
import Derived.Test.YtlhnodinhmdjnaaGreatDoorVk36
import Derived.Test.YtlhnodinhmdjnaaGreatDoorVk37
import Derived.Test.YtlhnodinhmdjnaaGreatDoorRows
import Derived.Test.YtlhnodinhmdjnaaGreatDoorVk12
import Derived.ProofKit
import Derived.LaidMore
import Derived.OpenShut
import Derived.Stop.Joined
import Derived.Lib.LaidTab
namespace Go.Proofs.YtlhnodinhmdjnaaGreatDoor
set_option maxRecDepth 20000
open Go.RowKit

/-- A name's number. -/
def rtOf (ms : Nms) (x : List UInt8) : Nat := ((ms.find? (fun p => p.1 == x)).map (·.2)).getD 0
theorem rtOf_mem {ms : Nms} {x : List UInt8} (h : x ∈ ms.map (·.1)) : (x, rtOf ms x) ∈ ms := by
  obtain ⟨p, hp, e⟩ := List.mem_map.1 h
  cases hf : ms.find? (fun p => p.1 == x) with
  | none =>
    have := List.find?_eq_none.1 hf p hp
    simp [e] at this
  | some q =>
    have h1 := List.mem_of_find?_eq_some hf
    have h2 := List.find?_some hf
    rw [rtOf, hf]
    have : q.1 = x := by simpa using h2
    rw [← this]
    exact h1
theorem nmSort_mem {ms : Nms} {x : List UInt8} : x ∈ nmSort ms ↔ x ∈ ms.map (·.1) := (List.mergeSort_perm _ _).mem_iff
theorem nmSort_len (ms : Nms) : (nmSort ms).length = ms.length := by rw [nmSort, List.length_mergeSort, List.length_map]
/-- The numbers in the order of the names. -/
def nmRoots (ms : Nms) (k : Nat) : List Nat := ((nmSort ms).take k).map (rtOf ms)
theorem nmRoots_len {ms : Nms} {k : Nat} (h : k ≤ ms.length) : (nmRoots ms k).length = k := by rw [nmRoots, List.length_map, List.length_take, nmSort_len]; omega
theorem nmRoots_snoc {ms : Nms} {k : Nat} {x : List UInt8} (h : (nmSort ms)[k]? = some x) : nmRoots ms (k + 1) = nmRoots ms k ++ [rtOf ms x] := by
  rw [nmRoots, nmRoots, List.take_add_one, h, List.map_append]
  rfl

def RoPost (w : World) (ms : Nms) (e : Ending) (w' : World) : Prop := ∃ v, e = .returned v ∧ w'.ownsRow w.heap.size 3 1 v ms.length (nats (nmRoots ms ms.length)) ∧ Below w.heap.size w w'

section
variable {w1 w : World} {X : List Nat} {gv b g gs R : Nat} {ms : Nms} {cs : List (Nat × Ce)} {fr : List Nat}
set_option maxHeartbeats 2000000 in
theorem vroots_ok (h : Hv w1 w X gv b g gs R ms cs fr) (hl : ms.length ≤ 1000) : Calls Tryz.prog 39 #[.pointer (some ⟨gv, 0, none⟩)] w (RoPost w ms) := by
  have HN := hidden (vnames_ok h hl)
  have HH := hidden h
  have hk : ∀ x ∈ nmSort ms, x.length ≤ maxLen := fun x hx => by
    obtain ⟨D, h1, h2⟩ := h.vm
    have hm : x ∈ strKeys D := by
      obtain ⟨es, hD, hpw, _⟩ := h1.entries sK14
      obtain ⟨es', hD', hko⟩ := h1.keysOf
      obtain rfl : es = es' := by rw [hD] at hD'; simpa using hD'
      subst hD
      exact (perm_strKeys hpw (fun p hp => by
        obtain ⟨v, hv⟩ := hko p hp
        obtain ⟨x, _, hx, _⟩ := Maps.keyOf_str Tryz.underlying9 hv
        exact ⟨x, hx⟩) h2.nd (fun x => by rw [h2.has, nmHas_iff])).mem_iff.1 (nmSort_mem.1 hx)
    exact strKeys_le h1 Tryz.underlying9 x hm
  have HKL := hidden hk
  have HNL := hidden (nmSort_len ms)
  clear h hk
  obtain ⟨n, hn⟩ : ∃ n, n = ms.length := ⟨_, rfl⟩
  have HNN := hidden hn
  rw [← hn] at hl HNL
  clear hn
  go_enter Tryz.func39, Tryz.ntmps39
  go_wp2_with (go_at_call 30; refine HN.out.mono ?_; rintro e w2 ⟨v7, rfl, r7, b7⟩; obtain ⟨na, nc, rfl, hc⟩ := tx_own r7; have HC := hidden hc; have HB := hidden b7; clear r7 b7 hc; rw [List.length_map, HNL.out] at HC ⊢)
  go_loopw [3, 9] (fun l i wr => ∃ (k : Nat) (a : Option Addr) (c : Nat), k ≤ n ∧ i = .int .i64 (k : Int) ∧ l = .slice a k c ∧ Hid (wr.ownsRow w2.heap.size 3 1 (.slice a k c) k (nats (nmRoots ms k))) ∧ Hid (Below w.heap.size w wr) ∧ Hid (Below w2.heap.size w2 wr)) (fun _ i _ => n - (intOf i).toNat)
  case atStart => exact ⟨0, none, 0, Nat.zero_le _, rfl, rfl, World.ownsRow_nil _ _ _ _, HB, Below.refl _ _⟩
  case round =>
    obtain ⟨k, a, c, hk, rfl, rfl, hO, hbl, hb2⟩ := hrel
    have hwk : wrap64 ((k : Int) + 1) = ((k + 1 : Nat) : Int) := by rw [Go.IntWalk.wrap64_in _ (by omega)]; rfl
    by_cases hlt : k < n
    · have i1 : (k : Int) < (n : Int) := by omega
      have i0 : (0 : Int) ≤ (k : Int) := by omega
      obtain ⟨gn, on, rfl, hcell⟩ := HC.out (by omega)
      have hks : k < (nmSort ms).length := by rw [HNL.out]; exact hlt
      obtain ⟨x, hx⟩ : ∃ x, (nmSort ms)[k]? = some x := ⟨_, List.getElem?_eq_getElem hks⟩
      have hc := below_cell hb2.out (hcell k hlt)
      rw [List.getElem?_map, hx] at hc
      have hmx : x ∈ nmSort ms := List.mem_of_getElem? hx
      have HRS := hidden (nmRoots_snoc hx)
      obtain ⟨s, hs⟩ : ∃ s : ByteArray, s = ⟨x.toArray⟩ := ⟨_, rfl⟩
      have hsd : s.data.toList = x := by rw [hs]
      have hc1 : wr.cell? ⟨gn, on + k, none⟩ = some (.string s) := by rw [hc, hs]; rfl
      obtain ⟨y, hy⟩ : ∃ y, y = rtOf ms x := ⟨_, rfl⟩
      rw [← hy] at HRS
      have hlk : ∀ w', Below w.heap.size w w' → (Instr.lookup 68 (.map (some b)) (.string s) false).run Tryz.prog w' = .ok (.int .i64 (y : Int)) w' := fun w' hb => (HH.out.grow hb).vm.look (by
        have := HKL.out x hmx
        rw [← hsd] at this
        exact this) (by rw [hsd, hy]; exact rtOf_mem (nmSort_mem.1 hmx))
      have hl1 := hlk wr hbl.out
      have c2 := (HH.out.grow hbl.out).c2
      have HLL := hidden hl
      clear hc hcell hks hx hmx hs hsd hy hlk
      go_wp2_with (at_builtin; refine wpList_appB _ rfl _ _ _ rfl w2.heap.size 3 1 8 Tryz.underlying93 info_nat (by omega) _ k (nats (nmRoots ms k)) rfl (hO.out.alloc _) wr.heap.size [Value.int .i64 (y : Int)] rfl (Blk.new _ _ _) rfl (by intro u hu; simp at hu; subst hu; rfl) (by have := HLL.out; simp only [maxLen]; omega) (by have := HLL.out; omega) (by have := hb2.out.size; simp; omega) ?_; intro a3 c3 w3 o3 g3)
      have hbb : Below w2.heap.size w2 w3 := (hb2.out.trans ((grow_alloc wr _).mono hb2.out.size)).grown g3 (by have := hb2.out.size; simp; omega) (fun q hq => (hO.out.lt q hq).1)
      refine ⟨⟨k + 1, a3, c3, by omega, by go_num, rfl, ?_, grow_trans HB.out hbb, hbb⟩, by simp [intOf]; omega⟩
      show World.ownsRow _ _ _ _ _ _ _
      rw [HRS.out, nats_snoc]
      exact o3
    · obtain rfl : k = n := by omega
      go_wp2
      go_ret
      exact ⟨_, rfl, by rw [← HNN.out]; exact owR_base hO.out HB.out.size, hbl.out⟩
end

end Go.Proofs.YtlhnodinhmdjnaaGreatDoor

/- VersionsKnown's walk: the document's examples. -/
namespace Go.Proofs.YtlhnodinhmdjnaaGreatDoor
set_option maxRecDepth 20000
open Go.RowKit

section
variable {w1 w : World} {X : List Nat} {gv b g gs R : Nat} {ms : Nms} {G : List UInt8 → Tre} {hd : Nat} {T : Tre} {cs : List (Nat × Ce)} {fr : List Nat}
theorem sv_add0 {s : ByteArray} (h : Sv w1 w X gv b g gs R ms G hd T cs fr) (hn : nmOk s = true) (ht : nmHas ms s.data.toList = false) (hl : ms.length < 16) : Calls Tryz.prog 27 #[.pointer (some ⟨gv, 0, none⟩), .string s, .int .i64 0] w fun e w' => e = .returned (.int .i64 0) ∧ Sv w1 w' X gv b g gs R (nmPut ms s.data.toList 0) (upG G s.data.toList .emp) hd T cs fr ∧ Kx X b w w' := by
  refine (vadd_zero h.hv hn ht hl).mono ?_
  rintro e w' ⟨rfl, k1, k2⟩
  refine ⟨rfl, ⟨k1, fun j => ?_, h.rt, fun p hp => ?_, by rw [nmPut_new ht, List.length_cons]; omega⟩, k2⟩
  · rw [nct_put ht, h.own]
    simp
  · rw [nmPut_new ht] at hp
    rcases List.mem_cons.1 hp with rfl | hp
    · simpa [upG] using Rt.zero cs
    · have : p.1 ≠ s.data.toList := fun e => by
        have : nmHas ms s.data.toList = true := nmHas_iff.2 (List.mem_map.2 ⟨p, hp, e⟩)
        rw [ht] at this
        cases this
      rw [upG, if_neg this]
      exact h.rts p hp
theorem Sv.zero (h : Sv w1 w X gv b g gs R ms G 0 T cs fr) (hz : ∀ p ∈ ms, p.2 = 0) : noc cs = 0 := none_left h.wf fun i => by
  rw [h.own, if_neg (by omega), nct, List.countP_eq_zero.2 (fun p hp => by rw [hz p hp]; simp)]
end

section
variable {w w' : World} {X : List Nat} {gv b g gs : Nat} {ms : Nms} {G : List UInt8 → Tre} {hd n l : Nat} {T : Tre}
theorem on_add0 {s : ByteArray} (h : On w w' X gv b g gs ms G hd n l T) (hn : nmOk s = true) (ht : nmHas ms s.data.toList = false) (hl : ms.length < 16) : Calls Tryz.prog 27 #[.pointer (some ⟨gv, 0, none⟩), .string s, .int .i64 0] w' fun e w'' => e = .returned (.int .i64 0) ∧ On w w'' X gv b g gs (nmPut ms s.data.toList 0) (upG G s.data.toList .emp) hd n l T := by
  obtain ⟨cs, fr, h, h1, h2⟩ := h
  refine (sv_add0 h hn ht hl).mono ?_
  rintro e w'' ⟨rfl, k1, k2⟩
  exact ⟨rfl, cs, fr, k1, h1, h2⟩
theorem on_bad {s : ByteArray} (h : On w w' X gv b g gs ms G hd n l T) (hs : s.size ≤ maxLen) (hn : nmOk s = false) (q : Int) : Calls Tryz.prog 27 #[.pointer (some ⟨gv, 0, none⟩), .string s, .int .i64 q] w' fun e w'' => e = .returned (.int .i64 5) ∧ Below w'.heap.size w' w'' := by
  obtain ⟨cs, fr, h, h1, h2⟩ := h
  exact vadd_name h.hv hs hn q
theorem on_599 {s : ByteArray} (h : On w w' X gv b g gs ms G hd n l T) (hn : nmOk s = true) (hl : l ≤ 500) : Calls Tryz.prog 27 #[.pointer (some ⟨gv, 0, none⟩), .string s, .int .i64 599] w' fun e w'' => e = .returned (.int .i64 7) ∧ Below w'.heap.size w' w'' := by
  obtain ⟨cs, fr, h, h1, h2⟩ := h
  refine vadd_root h.hv (by have := nmOk_le hn; unfold maxLen; omega) hn 599 7 ?_ rfl
  have hc : cot cs 599 = 0 := by
    rw [cot, if_pos (by omega)]
    by_cases e : 0 < cc cs ((599 : Int) - 1).toNat
    · have := cc_lt e
      have : ((599 : Int) - 1).toNat = 598 := rfl
      omega
    · omega
  rw [vRt, if_pos rfl, if_neg (by omega), if_pos hc]
theorem on_there0 {s : ByteArray} (h : On w w' X gv b g gs ms G hd n l T) (hn : nmOk s = true) (ht : nmHas ms s.data.toList = true) : Calls Tryz.prog 27 #[.pointer (some ⟨gv, 0, none⟩), .string s, .int .i64 0] w' fun e w'' => e = .returned (.int .i64 6) ∧ Below w'.heap.size w' w'' := by
  obtain ⟨cs, fr, h, h1, h2⟩ := h
  exact vadd_there h.hv (by have := nmOk_le hn; unfold maxLen; omega) hn 0 rfl ht
theorem on_many0 {s : ByteArray} (h : On w w' X gv b g gs ms G hd n l T) (hn : nmOk s = true) (ht : nmHas ms s.data.toList = false) (hl : 16 ≤ ms.length) : Calls Tryz.prog 27 #[.pointer (some ⟨gv, 0, none⟩), .string s, .int .i64 0] w' fun e w'' => e = .returned (.int .i64 8) ∧ Below w'.heap.size w' w'' := by
  obtain ⟨cs, fr, h, h1, h2⟩ := h
  exact vadd_many h.hv (by have := nmOk_le hn; unfold maxLen; omega) hn 0 rfl ht hl
theorem on_drop {s : ByteArray} (h : On w w' X gv b g gs ms G hd n l T) (hs : s.size ≤ maxLen) {v : Nat} (hv : (s.data.toList, v) ∈ ms) : Calls Tryz.prog 33 #[.pointer (some ⟨gv, 0, none⟩), .string s] w' fun e w'' => ∃ m k : Nat, e = .returned (.tuple #[.int .i64 (m : Int), .int .i64 0]) ∧ On w w'' X gv b g gs (nmDel ms s.data.toList) G hd k l T ∧ k + m = n := by
  obtain ⟨cs, fr, h, h1, h2⟩ := h
  refine (sv_drop hs h hv).mono ?_
  rintro e w'' ⟨z, rfl, cs', fr', m, rfl, k1, k2, k3, k4⟩
  exact ⟨m, noc cs', rfl, ⟨cs', fr', k1, rfl, by omega⟩, by omega⟩
theorem on_miss {s : ByteArray} (h : On w w' X gv b g gs ms G hd n l T) (hs : s.size ≤ maxLen) (hn : nmHas ms s.data.toList = false) : Calls Tryz.prog 33 #[.pointer (some ⟨gv, 0, none⟩), .string s] w' fun e w'' => e = .returned (.tuple #[.int .i64 0, .int .i64 7]) ∧ w'' = w' := by
  obtain ⟨cs, fr, h, h1, h2⟩ := h
  exact vdrop_miss h.hv hs hn
theorem on_occ (h : On w w' X gv b g gs ms G hd n l T) : Calls Tryz.prog 34 #[.pointer (some ⟨g, 0, none⟩)] w' fun e w'' => e = .returned (.int .i64 (n : Int)) ∧ Below w'.heap.size w' w'' := by
  obtain ⟨cs, fr, h, h1, h2⟩ := h
  obtain ⟨S, hs, _⟩ := h.hv.hs
  have := hs_occ hs
  rwa [h1] at this
theorem on_len (h : On w w' X gv b g gs ms G hd n l T) : Calls Tryz.prog 35 #[.pointer (some ⟨gv, 0, none⟩)] w' fun e w'' => e = .returned (.int .i64 (ms.length : Int)) ∧ w'' = w' := by
  obtain ⟨cs, fr, h, h1, h2⟩ := h
  exact vlen_ok h.hv
theorem on_roots (h : On w w' X gv b g gs ms G hd n l T) : Calls Tryz.prog 39 #[.pointer (some ⟨gv, 0, none⟩)] w' (RoPost w' ms) := by
  obtain ⟨cs, fr, h, h1, h2⟩ := h
  exact vroots_ok h.hv (by have := h.few; omega)
theorem On.some (h : On w w' X gv b g gs ms G hd n l T) {k : List UInt8} {i : Nat} (hm : (k, i) ∈ ms) (hi : 0 < i) : 0 < n := by
  obtain ⟨cs, fr, h, h1, h2⟩ := h
  obtain ⟨j, rfl⟩ : ∃ j, i = j + 1 := ⟨i - 1, by omega⟩
  rw [← h1]
  exact h.some hm
theorem On.zero (h : On w w' X gv b g gs ms G 0 n l T) (hz : ∀ p ∈ ms, p.2 = 0) : n = 0 := by
  obtain ⟨cs, fr, h, h1, h2⟩ := h
  rw [← h1]
  exact h.zero hz
end

abbrev sN : ByteArray := { data := #[110, 111, 110, 101] }
abbrev sM : ByteArray := { data := #[111, 110, 101, 45, 109, 111, 114, 101] }
theorem sN_ok : nmOk sN = true := by decide
theorem sM_ok : nmOk sM = true := by decide
theorem sB_ok : nmOk { data := #[98] } = true := by decide
theorem s2_bad : nmOk { data := #[50] } = false := by decide
/-- The names behind the first two adds. -/
def mB (hd : Nat) : Nms := [(sN.data.toList, 0), (sA.data.toList, hd)]
theorem mB_put (hd : Nat) : nmPut (nmPut [] sA.data.toList hd) sN.data.toList 0 = mB hd := rfl
theorem mB_del (hd : Nat) : nmDel (mB hd) sA.data.toList = [(sN.data.toList, 0)] := rfl
theorem mB_sort (hd : Nat) : nmSort (mB hd) = [sA.data.toList, sN.data.toList] := by
  show List.mergeSort [sN.data.toList, sA.data.toList] _ = _
  rw [mergeSort_of_perm (l' := [sA.data.toList, sN.data.toList]) (List.Perm.swap _ _ _)]
  exact List.mergeSort_of_pairwise (by decide)
theorem mB_roots (hd : Nat) : nmRoots (mB hd) 2 = [hd, 0] := by
  rw [nmRoots, mB_sort]
  rfl
/-- The name x and the k-th letter. -/
def nX (k : Nat) : List UInt8 := [120, (97 + k).toUInt8]
def mK : Nat → Nms
  | 0 => [(sN.data.toList, 0)]
  | k + 1 => nmPut (mK k) (nX k) 0
theorem mK_new : ∀ k, k < 15 → nmHas (mK k) (nX k) = false := by decide
theorem mK_len : ∀ k, k < 16 → (mK k).length = k + 1 := by decide
theorem mK_M : nmHas (mK 15) sM.data.toList = false := by decide
theorem mK_N : nmHas (mK 15) sN.data.toList = true := by decide
theorem nX_ok : ∀ k, k < 15 → nmOk ⟨(nX k).toArray⟩ = true := by decide

/-- Two texts in a new list. -/
theorem tx_two (w : World) (s t : ByteArray) : Tx (w.alloc (.cells #[.string s, .string t] 9)) (.slice (some ⟨w.heap.size, 0, none⟩) 2 2) [s, t] := ⟨_, _, rfl, fun _ => ⟨w.heap.size, 0, rfl, fun i hi => by
  have : i < 2 := hi
  rw [(Blk.new w 9 #[.string s, .string t]).cell]
  rcases (show i = 0 ∨ i = 1 by omega) with rfl | rfl <;> rfl⟩⟩
theorem ns_two (w : World) (x y : Int) : Ns (w.alloc (.cells #[.int .i64 x, .int .i64 y] 3)) (.slice (some ⟨w.heap.size, 0, none⟩) 2 2) [x, y] := ⟨_, _, rfl, fun _ => ⟨w.heap.size, 0, rfl, fun i hi => by
  have : i < 2 := hi
  rw [(Blk.new w 3 #[.int .i64 x, .int .i64 y]).cell]
  rcases (show i = 0 ∨ i = 1 by omega) with rfl | rfl <;> rfl⟩⟩

theorem nX_str (k : Nat) (h : k < 15) : ({ data := #[120] } : ByteArray) ++ strOfNums [97 + (k : Int)] = ⟨(nX k).toArray⟩ := by
  have : ∀ k, k < 15 → ({ data := #[120] } : ByteArray) ++ strOfNums [97 + ((k : Nat) : Int)] = ⟨(nX k).toArray⟩ := by decide
  exact this k h
theorem ro_two {w : World} {base hd : Nat} {v : Value} (r : w.ownsRow base 3 1 v (mB hd).length (nats (nmRoots (mB hd) (mB hd).length))) : Ns w v ([hd, 0].map fun (s : Nat) => (s : Int)) := by
  have e : nmRoots (mB hd) (mB hd).length = [hd, 0] := mB_roots hd
  rw [e] at r
  exact ns_own (ss := [hd, 0]) r

set_option maxHeartbeats 8000000 in
theorem versionsKnown_walk (w : World) (hL : Laid w) : Calls Tryz.prog 8 #[] w fun e w' => e = .returned (.bool true) ∧ Below w.heap.size w w' := by
  have HO := hidden (one_any w hL)
  have HW : Hid (∀ w', Below w.heap.size w w' → Calls Tryz.prog 24 #[] w' fun e w'' => e = .returned (.bool true) ∧ Below w'.heap.size w' w'') := fun w' hb => awake14_any w' (hL.grow hb)
  have HST : Hid (∀ v w', Tx w' v ([sA.data.toList, sN.data.toList].map fun s => (⟨s.toArray⟩ : ByteArray)) → ∀ u, Tx w' u [sA, sN] → Calls Tryz.prog 37 #[v, u] w' fun e w'' => e = .returned (.bool true) ∧ Below w'.heap.size w' w'') := fun v w' hx u hu => by
    have := sameTexts_any v u _ _ w' hx hu (by simp)
    rw [decide_eq_true (show ([sA.data.toList, sN.data.toList].map fun s => (⟨s.toArray⟩ : ByteArray)) = [sA, sN] from rfl)] at this
    exact this
  have HSI : Hid (∀ v w' (hd : Nat), Ns w' v ([hd, 0].map fun (s : Nat) => (s : Int)) → ∀ u, Ns w' u [(hd : Int), 0] → Calls Tryz.prog 38 #[v, u] w' fun e w'' => e = .returned (.bool true) ∧ Below w'.heap.size w' w'') := fun v w' hd hx u hu => by
    have := sameInts_any v u _ _ w' hx hu (by simp)
    rw [decide_eq_true (show ([hd, 0].map fun (s : Nat) => (s : Int)) = [(hd : Int), 0] from rfl)] at this
    exact this
  clear hL
  go_enter Tryz.func8, Tryz.ntmps8
  go_wp2_with (first
    | (go_at_call 36; refine (HO.out).mono ?_; rintro e w1 ⟨X, gv, b, g, gs, hd, rfl, h0, h1⟩; have H0 := hidden h0; have H1 := hidden h1; clear h1 h0 HO)
    | (go_at_call 27; refine (on_add (s := sA) H1.out sA_ok rfl (by decide)).mono ?_; rintro e w2 ⟨rfl, h2⟩; have H2 := hidden h2; clear h2 H1)
    | (go_at_call 27; refine (on_bad (s := { data := #[50] }) H2.out (by decide) s2_bad _).mono ?_; rintro e w3 ⟨rfl, b3⟩; have H3 := hidden (H2.out.grow b3); clear b3 H2)
    | (go_at_call 27; refine (on_599 (s := { data := #[98] }) H3.out sB_ok (by omega)).mono ?_; rintro e w4 ⟨rfl, b4⟩; have H4 := hidden (H3.out.grow b4); clear b4 H3)
    | (go_at_call 27; refine (on_add0 (s := sN) H4.out sN_ok rfl (by show 1 < 16; omega)).mono ?_; rintro e w5 ⟨rfl, h5⟩; replace h5 : On w w5 X gv b g gs (mB hd) _ _ _ _ _ := h5; have H5 := hidden h5; clear h5 H4)
    | (go_at_call 32; refine (on_let H5.out H0.out).mono ?_; rintro e w6 ⟨m6, k6, rfl, h6, e6⟩; have hk6 : k6 = 1 := (by have := h6.some (k := sA.data.toList) (i := hd) (by simp [mB]) H0.out; omega); subst hk6; have H6 := hidden h6; clear h6 e6 H5)
    | (go_at_call 30; refine (on_names H6.out).mono ?_; rintro e w7 ⟨v7, rfl, r7, b7⟩; have HV7 := hidden (tx_own r7); rw [mB_sort] at HV7; have H7 := hidden (H6.out.grow b7); clear r7 b7 H6)
    | (go_at_call 37; refine (HST.out _ _ (HV7.out.grow (grow_alloc _ _)) _ (tx_two _ _ _)).mono ?_; rintro e w8 ⟨rfl, b8⟩; have H8 := hidden ((H7.out.grow (grow_alloc _ _)).grow b8); clear b8 H7 HV7)
    | (go_at_call 39; refine (on_roots H8.out).mono ?_; rintro e w9 ⟨v9, rfl, r9, b9⟩; have HV9 := hidden (ro_two r9); have H9 := hidden (H8.out.grow b9); clear r9 b9 H8)
    | (go_at_call 38; refine (HSI.out _ _ hd (HV9.out.grow (grow_alloc _ _)) _ (ns_two _ _ _)).mono ?_; rintro e w10 ⟨rfl, b10⟩; have H10 := hidden ((H9.out.grow (grow_alloc _ _)).grow b10); clear b10 H9 HV9)
    | (go_at_call 33; refine (on_drop (s := sA) (v := hd) H10.out (by decide) (by simp [mB])).mono ?_; rintro e w11 ⟨m11, k11, rfl, h11, e11⟩; replace h11 : On w w11 X gv b g gs [(sN.data.toList, 0)] _ _ _ _ _ := h11; have hk11 := h11.zero (by simp); subst hk11; have hm11 : m11 = 1 := (by omega); subst hm11; have H11 := hidden h11; clear h11 e11 H10)
    | (go_at_call 33; refine (on_miss (s := sA) H11.out (by decide) rfl).mono ?_; rintro e w' ⟨rfl, hx⟩; rw [hx]; clear hx w'; have H12 := H11; clear H11)
    | (go_at_call 34; refine (on_occ H12.out).mono ?_; rintro e w13 ⟨rfl, b13⟩; have H13 := hidden (H12.out.grow b13); clear b13 H12))
  go_loopw [11] (fun i wr => ∃ k : Nat, k ≤ 15 ∧ i = .int .i64 (k : Int) ∧ Hid (∃ G, On w wr X gv b g gs (mK k) G 0 0 1 .emp)) (fun i _ => 15 - (intOf i).toNat)
  case atStart => exact ⟨0, by omega, rfl, _, H13.out⟩
  case round =>
    clear H13
    obtain ⟨k, hk, rfl, hG⟩ := hrel
    obtain ⟨G, hH⟩ := hG
    have H := hidden hH
    clear hH
    by_cases hlt : k < 15
    · have i1 : (k : Int) < 15 := by omega
      have hwk : wrap64 ((k : Int) + 1) = ((k + 1 : Nat) : Int) := by rw [Go.IntWalk.wrap64_in _ (by omega)]; rfl
      have hwc : wrap64 (97 + (k : Int)) = 97 + (k : Int) := Go.IntWalk.wrap64_in _ (by omega)
      have HNW := hidden (mK_new k hlt)
      have HNK := hidden (nX_ok k hlt)
      have HNL := hidden (mK_len k (by omega))
      obtain ⟨t, ht⟩ : ∃ t : ByteArray, t = strOfNums [97 + (k : Int)] := ⟨_, rfl⟩
      have hcv : (convert 35 9 (.slice (some ⟨wr.heap.size, 0, none⟩) 1 1)).run Tryz.prog (wr.alloc (.cells #[.int .u8 (97 + (k : Int))] 5)) = .ok (.string t) (wr.alloc (.cells #[.int .u8 (97 + (k : Int))] 5)) := by
        rw [ht]
        exact conv_reads (one_reads wr (97 + (k : Int)) (by omega) (by omega))
      have HST : Hid (({ data := #[120] } : ByteArray) ++ t = ⟨(nX k).toArray⟩) := by
        show _ = _
        rw [ht]
        exact nX_str k hlt
      have HAD : Hid (∀ w', On w w' X gv b g gs (mK k) G 0 0 1 .emp → Calls Tryz.prog 27 #[.pointer (some ⟨gv, 0, none⟩), .string ({ data := #[120] } ++ t), .int .i64 0] w' fun e w'' => e = .returned (.int .i64 0) ∧ On w w'' X gv b g gs (mK (k + 1)) (upG G (nX k) .emp) 0 0 1 .emp) := fun w' h => by
        rw [HST.out]
        exact on_add0 (s := ⟨(nX k).toArray⟩) h HNK.out HNW.out (by rw [HNL.out]; omega)
      have hts : t.size = 1 := by rw [ht]; rfl
      have htl : ¬ (9223372036854775807 < 1 + t.size) := by omega
      clear ht HST hts
      go_wp2_with (go_at_call 27; refine (HAD.out _ (H.out.grow (grow_alloc _ _))).mono ?_; rintro e w14 ⟨rfl, h14⟩; have H14 := hidden h14; clear h14)
      exact ⟨⟨k + 1, by omega, by go_num, _, H14.out⟩, by simp [intOf]; omega⟩
    · obtain rfl : k = 15 := by omega
      go_wp2_with (first
        | (go_at_call 27; refine (on_many0 (s := sM) H.out sM_ok mK_M (by decide)).mono ?_; rintro e w15 ⟨rfl, b15⟩; have H15 := hidden (H.out.grow b15); clear b15 H)
        | (go_at_call 27; refine (on_there0 (s := sN) H15.out sN_ok mK_N).mono ?_; rintro e w16 ⟨rfl, b16⟩; have H16 := hidden (H15.out.grow b16); clear b16 H15)
        | (go_at_call 35; refine (on_len H16.out).mono ?_; rw [show (mK 15).length = 16 from (by decide)]; rintro e w' ⟨rfl, hx⟩; rw [hx]; clear hx w')
        | (go_at_call 24; refine (HW.out _ H16.out.low).mono ?_; rintro e w17 ⟨rfl, b17⟩))
      go_ret
      exact ⟨rfl, grow_trans H16.out.low b17⟩

end Go.Proofs.YtlhnodinhmdjnaaGreatDoor

/- What the two tables of sha hold when a statement's call begins, as the rows list it; and the start that the program's own text lays. -/
namespace Go.Proofs.YtlhnodinhmdjnaaGreatDoor
set_option maxRecDepth 20000
open Go.ChangeShapes Go.WideShapes Go.ChangeAt Go.WideMaps Go.WideElems Go.RowKit

abbrev laid2 : List (String × DataW Unit) := Rows.listNoneRow.laid
abbrev nameOf (i : Nat) : String := (laid2.map (·.1)).getD i Rows.listNoneRow.func

theorem gFirst : Tryz.prog.globalNamed (nameOf 0) = some 1 := by kernel_rfl
theorem gRounds : Tryz.prog.globalNamed (nameOf 1) = some 2 := by kernel_rfl
theorem tFirst : (Tryz.prog.globals[1]?).map (·.type) = some 204 := by kernel_rfl
theorem tRounds : (Tryz.prog.globals[2]?).map (·.type) = some 228 := by kernel_rfl

/-- The door's own heap meets the condition. -/
theorem door_met (os : Os) (args : Array Value) : laidMetH Tryz.prog laid2 ((World.doorLaid Tryz.prog 400 os).forCall (fun _ _ => 0) ⟨#[], args, []⟩).memory :=
  laidMetH_of_parts3 (fuel := 8) (laidMet_of_run' 8 (by kernel_rfl) (by kernel_rfl)) (by kernel_rfl) (by kernel_rfl)

theorem tab_first : (Rows.laid_rootcellar_sha_first : DataW Unit) = Lib.tabData .u32 hs := rfl
theorem tab_rounds : (Rows.laid_rootcellar_sha_rounds : DataW Unit) = Lib.tabData .u32 ks := rfl
theorem cells_w8 : Tryz.prog.cellsOf 204 = 8 := by kernel_rfl
theorem cells_w64 : Tryz.prog.cellsOf 228 = 64 := by kernel_rfl
theorem cells_w : Tryz.prog.cellsOf 203 = 1 := by kernel_rfl

/-- What the condition gives the walks. -/
theorem of_laid {W : World} (h : laidMetH Tryz.prog laid2 W) : Laid W := by
  rw [MakeChecks.laidMetH_plain _ _ _ (by kernel_rfl)] at h
  obtain ⟨ps, ⟨g0, t0, cs0, f0, p0, q0, hg0, ht0, hv0, hd0, ⟨g1, t1, cs1, f1, p1, q1, hg1, ht1, hv1, hd1, _, _⟩, _⟩, _, _⟩ := h
  obtain rfl := Option.some.inj (gFirst.symm.trans hg0)
  obtain rfl := Option.some.inj (gRounds.symm.trans hg1)
  obtain rfl := Option.some.inj (tFirst.symm.trans ht0)
  obtain rfl := Option.some.inj (tRounds.symm.trans ht1)
  rw [tab_first] at hd0
  rw [tab_rounds] at hd1
  have e0 := Lib.cells_of_tab Tryz.underlying204 Tryz.underlying203 cells_w cells_w8 hd0
  have e1 := Lib.cells_of_tab Tryz.underlying228 Tryz.underlying203 cells_w cells_w64 hd1
  have c1 : ∀ i, i < 64 → W.cell? ⟨2, i, none⟩ = some (.int .u32 (ks.getD i 0)) := by
    intro i hi
    rw [World.var?_cell hg1 hv1 i, ← Array.getElem?_toList, e1, List.getElem?_map, List.getElem?_eq_getElem (show i < ks.length from hi)]
    simp [List.getD, show i < ks.length from hi]
  have c0 : ∀ i, i < 8 → W.cell? ⟨1, i, none⟩ = some (.int .u32 (hs.getD i 0)) := by
    intro i hi
    rw [World.var?_cell hg0 hv0 i, ← Array.getElem?_toList, e0, List.getElem?_map, List.getElem?_eq_getElem (show i < hs.length from hi)]
    simp [List.getD, show i < hs.length from hi]
  exact ⟨block_lt_of_cell (c1 0 (by omega)), c1, c0⟩

end Go.Proofs.YtlhnodinhmdjnaaGreatDoor
