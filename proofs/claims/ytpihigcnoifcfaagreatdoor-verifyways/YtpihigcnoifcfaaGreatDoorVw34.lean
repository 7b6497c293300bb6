/- The document's Common, Under, Flip, Filled, Next (rootcellarref04), as contracts. -/
import Derived.Test.YtpihigcnoifcfaaGreatDoorVw30
import Derived.Test.YtpihigcnoifcfaaGreatDoorVw33
import Derived.Test.YtpihigcnoifcfaaGreatDoorVw15
namespace Go.Proofs.YtpihigcnoifcfaaGreatDoor
set_option maxRecDepth 20000
open Go.RowKit

end Go.Proofs.YtpihigcnoifcfaaGreatDoor

/- What a proof's bytes say, by definition, with no word of the program: the digest at the top, whether they are accepted for a key under a root, what they say of it. -/
namespace Go.Proofs.YtpihigcnoifcfaaGreatDoor
set_option maxRecDepth 20000
open Go.RowKit

/-- Whether the first n bits are alike. -/
def undB (xs ys : List Int) (n : Nat) : Bool := decide (n ≤ 256) && (List.range n).all fun j => decide (kb xs j = kb ys j)
theorem undB_iff (xs ys : List Int) (n : Nat) : undB xs ys n = true ↔ Und xs ys (n : Int) := by
  unfold undB Und
  rw [Bool.and_eq_true, List.all_eq_true, decide_eq_true_eq]
  constructor
  · rintro ⟨h1, h2⟩
    refine ⟨by omega, by omega, fun j hj => ?_⟩
    simpa using h2 j (List.mem_range.2 (by omega))
  · rintro ⟨_, h1, h2⟩
    refine ⟨by omega, fun j hj => ?_⟩
    have := h2 j (by have := List.mem_range.1 hj; omega)
    simpa using this
theorem undB_self (xs : List Int) (n : Nat) (h : n ≤ 256) : undB xs xs n = true := by
  unfold undB
  simp [h]

/-- Whether the end is the key's own leaf. -/
def vfO (key : List Int) (k : Int) (a : List Int) : Bool := decide (k = 1) && decide (a = key)
/-- Whether a proof is accepted for a key under a root. -/
def vfA (root key : List Int) (hs : List (List Int)) (k : Int) (a b c d : List Int) : Bool := (!decide (k = 1) || undB a key hs.length) && decide (upH key hs k a b c d = root)

/-- The digest at the top, of bytes. -/
def vfT (key zs : List Int) (k : Int) (a b c d : List Int) : List Int := if okD zs then upH key (dpH zs) k a b c d else z32
/-- Whether the bytes are accepted, and whether they say that the key is there. -/
def rdA (root key zs : List Int) (k : Int) (a b c d : List Int) : Bool := decide (okD zs) && vfA root key (dpH zs) k a b c d
def rdB (root key zs : List Int) (k : Int) (a b c d : List Int) : Bool := rdA root key zs k a b c d && vfO key k a
def rdV (root key zs : List Int) (k : Int) (a b c d : List Int) : List Int := if rdB root key zs k a b c d = true then b else z32
def rdE (root key zs : List Int) (k : Int) (a b c d : List Int) : Int := if okD zs then if vfA root key (dpH zs) k a b c d = true then 0 else 11 else 10

theorem upH_l (key : List Int) (hs : List (List Int)) (k : Int) (a b c d : List Int) : (upH key hs k a b c d).length = 32 := by
  unfold upH
  split
  · rfl
  · split
    · exact (upD_ok key hs 0 _ (dgN_ok k a b c d).1 (dgN_ok k a b c d).2).1
    · rfl

/-- Bytes that are a proof's have a good end. -/
theorem okD_end {zs : List Int} (hb : Bytes zs) (h : okD zs) {k : Int} {a b c d : List Int} (hn : dpN zs = nd k a b c d) (hN : Nd k a b c d) : okN k a b c d = true ∧ k ≠ 2 := by
  rw [dpN, if_pos h] at hn
  obtain ⟨k', a', b', c', d', h1, h2, h3, h4, _⟩ := okD_node hb h
  rw [hn] at h1
  obtain ⟨rfl, rfl, rfl, rfl, rfl⟩ := (nd_inj hN h2).1 h1
  exact ⟨h3, h4⟩

theorem upE_good {hs : List (List Int)} {k : Int} {a b c d : List Int} (hl : hs.length ≤ 256) (ho : okN k a b c d = true) (hk : k ≠ 2) : upE hs k a b c d = 0 := by
  rw [upE, if_neg (by omega), if_pos ⟨ho, hk⟩]

/-- What is said, in memory. -/
def sdP (t : Bool) (V : List Int) : List Value := .bool t :: V.map (Value.int .u8)
theorem sdP_length (t : Bool) (V : List Int) (h : V.length = 32) : (sdP t V).length = 33 := by simp [sdP, h]
theorem size_said : (Tryz.prog.info? 39).map (·.size) = some 33 := by kernel_rfl
theorem built_said0 : Tryz.prog.built 39 [] = some (sdP false z32).toArray := by kernel_rfl
def sdPlaces : Nat → Option (Nat × Nat) := fun i => (#[(0, 1), (1, 32)] : Array (Nat × Nat))[i]?
theorem built_sdEq (ps : List (Nat × Value)) : Tryz.prog.built 39 ps = Instr.fill sdPlaces (sdP false z32).toArray ps := by kernel_rfl
theorem built_said (V : List Int) (h : V.length = 32) : Tryz.prog.built 39 [(0, .bool true), (1, .agg (B V))] = some (sdP true V).toArray := by
  rw [built_sdEq]
  rw [fill_one sdPlaces 0 0 1 (.bool true) [.bool true] (sdP false z32) _ rfl rfl rfl (by simp [sdP])]
  rw [fill_one sdPlaces 1 1 32 (.agg (B V)) (V.map (Value.int .u8)) _ _ rfl (cells_b V) (by simp [h]) (by simp [sdP, z32])]
  simp [sdP, Instr.fill, z32]

end Go.Proofs.YtpihigcnoifcfaaGreatDoor

/- verify's calls, as contracts over what a proof's bytes say: isLeafOf, accepted, Read, Present, Absent, Top. -/
namespace Go.Proofs.YtpihigcnoifcfaaGreatDoor
set_option maxRecDepth 20000
open Go.RowKit

/-- load of a part of a block, where it is wanted. -/
theorem wpList_ldw {ops : Array Oper} {rest : List Oper} {op : Oper} {a : Act} {Q : Exit → Act → World → Prop} (w : World) (hgd : Region.wanted op (yielded ops a.tmps) = true) (x : Operand) (ty : TypeId) (ho : op.op = .load ty x)
    (g o : Nat) (xs : List Int) (hx : a.eval x = .pointer (some ⟨g, o, none⟩)) (hr : w.rangeAt g o (xs.map (Value.int .u8))) (n : Nat) (e : TypeId) (hu : Tryz.prog.underlying ty = some (.array n e)) (hi : (Tryz.prog.info? ty).map (·.size) = some xs.length)
    (hk : wpList Tryz.prog ops Q rest (a.put op.dst (.agg (B xs))) w) : wpList Tryz.prog ops Q (op :: rest) a w :=
  BigFrame.wpList_want hgd fun _ hK => wp_load_mid ty x ho g o hx (xs.map (Value.int .u8)) _ hr hu rfl (by rw [hi]; simp) (hK _ _ hk)

/-- store of one cell, in a region that draws its order. -/
theorem step_stc1 {ops : Array Oper} {o : Oper} {a : Act} {K : Act → World → Prop} {Q : Exit → Act → World → Prop} {E : Prop} (w : World) (hgd : o.guard = none) (x y : Operand) (ty : TypeId) (ho : o.op = .store ty x y)
    (g i : Nat) (u u0 : Value) (hx : a.eval x = .pointer (some ⟨g, i, none⟩)) (hy : a.eval y = u) (hu : u.cells = #[u]) (hu1 : u.oneCell' = true) (hc : w.cell? ⟨g, i, none⟩ = some u0) (hf : w.frozen? ⟨g, i, none⟩ = false) (hi : (Tryz.prog.info? ty).map (·.size) = some 1)
    (hk : K (a.put o.dst undef) (w.setCell ⟨g, i, none⟩ u)) : if Region.wanted o (yielded ops a.tmps) = true then Oper.wp Tryz.prog o a w K Q else E := by
  have hw : Region.wanted o (yielded ops a.tmps) = true := by simp [Region.wanted, hgd]
  rw [if_pos hw]
  have ht : w.there g i 1 := fun j hj => by
    obtain rfl : j = 0 := by omega
    exact ⟨by rw [Nat.add_zero, hc]; rfl, hf⟩
  have hr := run_storeVar_mid (P := Tryz.prog) w g i ty #[u] (by simpa using ht) (by simpa using hi) (by simpa using hu1)
  have hr2 : (storeVar ty ⟨g, i, none⟩ u).run Tryz.prog w = .ok () (w.setCell ⟨g, i, none⟩ u) := by
    have e : storeVar ty ⟨g, i, none⟩ u = storeVar ty ⟨g, i, none⟩ (.agg #[u]) := by
      unfold storeVar
      rw [hu]
      rfl
    rw [e, hr]
    rfl
  unfold Oper.wp execOp
  simp only [ho, hx, hy, Instr.storeAt, Instr.sureAddr, Sem.run_bind, Sem.run_pure, Result.andThen_ok, hr2]
  exact hk

/-- store in the midst of a block, in a region that draws its order. -/
theorem step_stmid {ops : Array Oper} {o : Oper} {a : Act} {K : Act → World → Prop} {Q : Exit → Act → World → Prop} {E : Prop} (w : World) (hgd : o.guard = none) (ty : TypeId) (x y : Operand) (ho : o.op = .store ty x y)
    (b off : Nat) (cells : Array Value) (hx : a.eval x = .pointer (some ⟨b, off, none⟩)) (hy : a.eval y = .agg cells) (ht : w.there b off cells.size) (hi : (Tryz.prog.info? ty).map (·.size) = some cells.size) (h1 : cells.all (·.oneCell') = true)
    (h : K (a.put o.dst undef) (w.setCells b off cells.toList)) : if Region.wanted o (yielded ops a.tmps) = true then Oper.wp Tryz.prog o a w K Q else E := by
  have hw : Region.wanted o (yielded ops a.tmps) = true := by simp [Region.wanted, hgd]
  rw [if_pos hw]
  exact wp_store_mid ty x y ho b off cells hx hy ht hi h1 h

theorem u_said : ∃ fs, Tryz.prog.underlying 39 = some (.struct fs) := ⟨_, Tryz.underlying39⟩
theorem zero_said : ∀ w, (zeroValue 39).run Tryz.prog w = .ok (.agg (sdP false z32).toArray) w := zero_of_info (n := 33) (by kernel_rfl) |>.1
theorem said_sz (t : Bool) (V : List Int) (h : V.length = 32) : (Tryz.prog.info? 39).map (·.size) = some (sdP t V).toArray.size ∧ (sdP false z32).toArray.size = (sdP t V).toArray.size := ⟨by rw [List.size_toArray, sdP_length t V h]; exact size_said, by rw [List.size_toArray, List.size_toArray, sdP_length t V h, sdP_length false z32 rfl]⟩
theorem said_one (t : Bool) (V : List Int) : (sdP t V).toArray.all (·.oneCell') = true := Array.all_eq_true_iff_forall_mem.2 (fun v hv => by
  simp only [sdP, List.mem_toArray, List.mem_cons, List.mem_map] at hv
  rcases hv with rfl | ⟨z, _, rfl⟩ <;> rfl)
theorem said_there {w : World} {g : Nat} {t : TypeId} {x : Bool} {V : List Int} (h : Blk w g t (sdP x V).toArray) : w.cell? ⟨g, 0, none⟩ = some (.bool x) := by
  rw [h.cell]
  simp [sdP]
theorem said_value {w : World} {g : Nat} {t : TypeId} {x : Bool} {V : List Int} (h : Blk w g t (sdP x V).toArray) : w.rangeAt g 1 (V.map (Value.int .u8)) := by
  intro j v hv
  rw [h.cell]
  simp only [sdP, List.getElem?_toArray]
  rw [Nat.add_comm, List.getElem?_cons_succ]
  exact hv
/-- What was empty is filled: first There, then Value. -/
theorem blk_said {w : World} {g : Nat} {t : TypeId} (h : Blk w g t (sdP false z32).toArray) (V : List Int) (hV : V.length = 32) : Blk ((w.setCell ⟨g, 0, none⟩ (.bool true)).setCells g 1 (B V).toList) g t (sdP true V).toArray := by
  have h1 := h.set 0 (.bool true)
  have h2 := Blk.cells (B V).toList 1 h1 (by simp [sdP, B, z32, hV])
  have e : ((((sdP false z32).toArray.setIfInBounds 0 (.bool true)).toList.take 1) ++ ((B V).toList ++ ((sdP false z32).toArray.setIfInBounds 0 (.bool true)).toList.drop (1 + (B V).toList.length))).toArray = (sdP true V).toArray := by simp [sdP, B, z32, hV]
  rwa [e] at h2
theorem end_part {w : World} {g : Nat} {t : TypeId} {s : Value} {z xs : List Int} {o : Nat} (h : Blk w g t (encR s z).toArray) (hs : Seg z o xs) : w.rangeAt g (1 + o) (xs.map (Value.int .u8)) := fun j v hv => by
  rw [Nat.add_assoc]
  refine proof_end h (o + j) v ?_
  simp only [List.getElem?_map, Option.map_eq_some_iff] at hv ⊢
  obtain ⟨z', hz, rfl⟩ := hv
  exact ⟨z', hs j z' hz, rfl⟩

set_option maxHeartbeats 2000000 in
theorem leafOf_any (key : List Int) (k : Int) (a b c d : List Int) (w : World) (hkey : Key key) (hN : Nd k a b c d) :
    Calls Tryz.prog 20 #[.agg (B key), .agg (B (nd k a b c d))] w fun e w' => e = .returned (.bool (vfO key k a)) ∧ Below w.heap.size w w' := by
  have HK : Hid (∀ w g t, Blk w g t (B (nd k a b c d)) → w.cell? ⟨g, 0, none⟩ = some (.int .u8 k)) := fun w g t h => Nd.kind h
  have HR : Hid (∀ w g t, Blk w g t (B (nd k a b c d)) → w.rangeAt g 1 (a.map (Value.int .u8))) := fun w g t h => hN.segA.range h
  have HLa : Hid ((Tryz.prog.info? 24).map (·.size) = some a.length) := by show _ = _; rw [hN.la]; exact sz_path
  have HSk : Hid ((Tryz.prog.info? 24).map (·.size) = some (B key).size) := by show _ = _; rw [B_size, hkey.1]; exact sz_path
  have hq : ∀ w, (Op.equalIn 10000 24 (.agg (B a)) (.agg (B key))).run Tryz.prog w = .ok (decide (a = key)) w := path_eq a key hN.la hkey.1
  clear hN hkey
  generalize nd k a b c d = N at *
  unfold vfO
  generalize decide (a = key) = r at *
  by_cases h1 : k = 1
  · have z1 : (k == 1) = true := by simp [h1]
    rw [decide_eq_true h1, Bool.true_and]
    clear h1
    go_enter Tryz.func20, Tryz.ntmps20
    go_wp2_with (first
      | ((with_reducible refine at_bxd 2 ?_); refine wpList_bx _ rfl _ _ rfl _ rfl ?_; intro w1 g2 hg2 hl2 B2 b1)
      | ((with_reducible refine at_bxd 3 ?_); refine wpList_bx _ rfl _ _ rfl _ rfl ?_; intro w2 g3 hg3 hl3 B3 b2; have c3 := HK.out _ _ _ B3)
      | ((with_reducible refine at_ldd 10 9 ?_); refine wpList_ldw _ rfl _ _ rfl g3 1 a rfl (HR.out _ _ _ B3) _ _ Tryz.underlying24 HLa.out ?_)
      | ((with_reducible refine at_ldd 11 2 ?_); refine wpList_ldg _ rfl _ _ rfl g2 _ rfl (B2.grow b2) _ _ Tryz.underlying24 HSk.out ?_))
    go_ret
    exact ⟨rfl, grow_trans b1 b2⟩
  · have z1 : (k == 1) = false := by simp [h1]
    rw [decide_eq_false h1, Bool.false_and]
    clear h1
    go_enter Tryz.func20, Tryz.ntmps20
    go_wp2_with (first
      | ((with_reducible refine at_bxd 2 ?_); refine wpList_bx _ rfl _ _ rfl _ rfl ?_; intro w1 g2 hg2 hl2 B2 b1)
      | ((with_reducible refine at_bxd 3 ?_); refine wpList_bx _ rfl _ _ rfl _ rfl ?_; intro w2 g3 hg3 hl3 B3 b2; have c3 := HK.out _ _ _ B3))
    go_ret
    exact ⟨rfl, grow_trans b1 b2⟩

set_option maxHeartbeats 4000000 in
theorem accepted_any (root key : List Int) (s : Value) (hs : List (List Int)) (k : Int) (a b c d : List Int) (w : World) (hroot : Key root) (hkey : Key key) (hh : HsAt w s hs) (hN : Nd k a b c d) (hl : hs.length ≤ 256) (ho : okN k a b c d = true) (hk2 : k ≠ 2) (hL : Laid w) :
    Calls Tryz.prog 19 #[.agg (B root), .agg (B key), .agg (encR s (nd k a b c d)).toArray] w fun e w' => e = .returned (.bool (vfA root key hs k a b c d)) ∧ Below w.heap.size w w' := by
  have KS := hidden hh.kp
  have KL := hidden hL.kp
  have HUp : Hid (∀ w', HsAt w' s hs → Laid w' → Calls Tryz.prog 47 #[.agg (B key), .agg (encR s (nd k a b c d)).toArray] w' fun e w'' => e = .returned (.tuple #[.agg (B (upH key hs k a b c d)), .int .i64 0]) ∧ Below w'.heap.size w' w'') := fun w' h1 h2 => by
    have := up_any key s hs k a b c d w' hkey h1 hN h2
    unfold UpPost at this
    rwa [upE_good hl ho hk2] at this
  have HUn : Hid (∀ w', Calls Tryz.prog 46 #[.agg (B a), .agg (B key), .int .i64 (hs.length : Int)] w' fun e w'' => e = .returned (.bool (undB a key hs.length)) ∧ Below w'.heap.size w' w'') := fun w' => under_at a key _ _ w' ⟨hN.la, hN.ba⟩ hkey (undB_iff _ _ _)
  have HK : Hid (∀ w g t, Blk w g t (encR s (nd k a b c d)).toArray → w.cell? ⟨g, 1, none⟩ = some (.int .u8 k)) := fun w g t h => proof_kind h
  have HR : Hid (∀ w g t, Blk w g t (encR s (nd k a b c d)).toArray → w.rangeAt g 2 (a.map (Value.int .u8))) := fun w g t h => end_part h hN.segA
  have HLa : Hid ((Tryz.prog.info? 24).map (·.size) = some a.length) := by show _ = _; rw [hN.la]; exact sz_path
  have HSk : Hid ((Tryz.prog.info? 24).map (·.size) = some (B key).size) := by show _ = _; rw [B_size, hkey.1]; exact sz_path
  have HSr := hidden (hash_sz root hroot.1)
  have hul := upH_l key hs k a b c d
  have HSu := hidden (hash_sz _ hul)
  have hq : ∀ w, (Op.equalIn 10000 25 (.agg (B (upH key hs k a b c d))) (.agg (B root))).run Tryz.prog w = .ok (decide (upH key hs k a b c d = root)) w := hash_eq _ root hul hroot.1
  obtain ⟨fp, hup⟩ := u_proof
  have HUP := hidden hup
  have HSP : Hid (∀ s', (Tryz.prog.info? 35).map (·.size) = some (encR s' (nd k a b c d)).toArray.size) := fun s' => encR_sz _ _ hN.length
  obtain ⟨sa, sc, rfl, _⟩ := hh
  obtain ⟨n, hnn⟩ : ∃ n, n = hs.length := ⟨_, rfl⟩
  unfold vfA
  rw [← hnn] at HUn HUp HK HR KS ⊢
  clear hup hul hN hl ho hk2 hL hroot hkey hnn
  generalize upH key hs k a b c d = U at *
  generalize nd k a b c d = N at *
  generalize decide (U = root) = r at *
  by_cases h1 : k = 1
  · have z1 : (k == 1) = true := by simp [h1]
    rw [decide_eq_true h1, Bool.not_true, Bool.false_or]
    clear h1
    generalize undB a key n = u at *
    cases u with
    | false =>
      go_enter Tryz.func19, Tryz.ntmps19
      go_wp2_with (first
        | ((with_reducible refine at_bxd 3 ?_); refine wpList_bx _ rfl _ _ rfl _ rfl ?_; intro w1 g3 hg3 hl3 B3 b1; have K3 := hidden B3.kp; replace KS := hidden (KS.out.step b1); replace KL := hidden (KL.out.step b1); clear B3 hl3 hg3)
        | ((with_reducible refine at_bxd 4 ?_); refine wpList_bx _ rfl _ _ rfl _ rfl ?_; intro w2 g4 hg4 hl4 B4 b2; have K4 := hidden B4.kp; replace K3 := hidden (K3.out.step b2); replace KS := hidden (KS.out.step b2); replace KL := hidden (KL.out.step b2); clear B4 hl4 hg4)
        | ((with_reducible refine at_bxd 5 ?_); refine wpList_bx _ rfl _ _ rfl _ rfl ?_; intro w3 g5 hg5 hl5 B5 b3; have K5 := hidden B5.kp; replace K4 := hidden (K4.out.step b3); replace K3 := hidden (K3.out.step b3); replace KS := hidden (KS.out.step b3); replace KL := hidden (KL.out.step b3); have c5 := HK.out _ _ _ B5; have s5 := proof_side B5; clear hl5 hg5)
        | ((with_reducible refine at_ldd 16 15 ?_); refine wpList_ldw _ rfl _ _ rfl g5 2 a rfl (HR.out _ _ _ B5) _ _ Tryz.underlying24 HLa.out ?_)
        | ((with_reducible refine at_ldd 17 4 ?_); refine wpList_ldg _ rfl _ _ rfl g4 _ rfl K4.out.now _ _ Tryz.underlying24 HSk.out ?_)
        | (go_at_call 46; refine (HUn.out _).mono ?_; rintro e w4 ⟨rfl, b4⟩))
      go_ret
      exact ⟨rfl, grow_trans b1 (grow_trans b2 (grow_trans b3 b4))⟩
    | true =>
      go_enter Tryz.func19, Tryz.ntmps19
      go_wp2_with (first
        | ((with_reducible refine at_bxd 3 ?_); refine wpList_bx _ rfl _ _ rfl _ rfl ?_; intro w1 g3 hg3 hl3 B3 b1; have K3 := hidden B3.kp; replace KS := hidden (KS.out.step b1); replace KL := hidden (KL.out.step b1); clear B3 hl3 hg3)
        | ((with_reducible refine at_bxd 4 ?_); refine wpList_bx _ rfl _ _ rfl _ rfl ?_; intro w2 g4 hg4 hl4 B4 b2; have K4 := hidden B4.kp; replace K3 := hidden (K3.out.step b2); replace KS := hidden (KS.out.step b2); replace KL := hidden (KL.out.step b2); clear B4 hl4 hg4)
        | ((with_reducible refine at_bxd 5 ?_); refine wpList_bx _ rfl _ _ rfl _ rfl ?_; intro w3 g5 hg5 hl5 B5 b3; have K5 := hidden B5.kp; replace K4 := hidden (K4.out.step b3); replace K3 := hidden (K3.out.step b3); replace KS := hidden (KS.out.step b3); replace KL := hidden (KL.out.step b3); have c5 := HK.out _ _ _ B5; have s5 := proof_side B5; clear hl5 hg5)
        | ((with_reducible refine at_ldd 16 15 ?_); refine wpList_ldw _ rfl _ _ rfl g5 2 a rfl (HR.out _ _ _ B5) _ _ Tryz.underlying24 HLa.out ?_)
        | ((with_reducible refine at_ldd 17 4 ?_); refine wpList_ldg _ rfl _ _ rfl g4 _ rfl K4.out.now _ _ Tryz.underlying24 HSk.out ?_)
        | (go_at_call 46; refine (HUn.out _).mono ?_; rintro e w4 ⟨rfl, b4⟩; replace KS := hidden (KS.out.step b4); replace KL := hidden (KL.out.step b4); replace K3 := hidden (K3.out.step b4); replace K4 := hidden (K4.out.step b4); replace K5 := hidden (K5.out.step b4); replace b3 := grow_trans b3 b4; clear b4)
        | ((with_reducible refine at_ldd 25 4 ?_); refine wpList_ld _ rfl _ _ rfl g4 _ rfl K4.out.now _ _ Tryz.underlying24 HSk.out ?_)
        | ((with_reducible refine at_ldd 26 5 ?_); refine wpList_lds _ rfl _ _ rfl g5 _ _ rfl K5.out.now HUP.out (HSP.out _) ?_)
        | (go_at_call 47; refine (HUp.out _ KS.out.now KL.out.now).mono ?_; rintro e w5 ⟨rfl, b5⟩; replace K3 := hidden (K3.out.step b5))
        | ((with_reducible refine at_ald 7 ?_); refine wpList_al _ rfl _ rfl _ zero_hash ?_; intro w6 g7 hg7 hl7 B7 b6; clear hl7)
        | ((with_reducible refine at_st 7 ?_); refine wpList_sto _ rfl _ _ _ rfl g7 _ (B U) rfl rfl B7 HSu.out.1 HSu.out.2 (B_one _) ?_; intro w7 B7' r7; have b7 := below_row b6 r7 hg7; replace K3 := hidden (K3.out.step b7))
        | ((with_reducible refine at_ldd 33 7 ?_); refine wpList_ldg _ rfl _ _ rfl g7 _ rfl B7' _ _ Tryz.underlying25 HSu.out.1 ?_)
        | ((with_reducible refine at_ldd 34 3 ?_); refine wpList_ldg _ rfl _ _ rfl g3 _ rfl K3.out.now _ _ Tryz.underlying25 HSr.out.1 ?_))
      go_ret
      rw [Bool.true_and]
      exact ⟨rfl, grow_trans b1 (grow_trans b2 (grow_trans b3 (grow_trans b5 b7)))⟩
  · have z1 : (k == 1) = false := by simp [h1]
    rw [decide_eq_false h1, Bool.not_false, Bool.true_or, Bool.true_and]
    clear h1
    go_enter Tryz.func19, Tryz.ntmps19
    go_wp2_with (first
        | ((with_reducible refine at_bxd 3 ?_); refine wpList_bx _ rfl _ _ rfl _ rfl ?_; intro w1 g3 hg3 hl3 B3 b1; have K3 := hidden B3.kp; replace KS := hidden (KS.out.step b1); replace KL := hidden (KL.out.step b1); clear B3 hl3 hg3)
        | ((with_reducible refine at_bxd 4 ?_); refine wpList_bx _ rfl _ _ rfl _ rfl ?_; intro w2 g4 hg4 hl4 B4 b2; have K4 := hidden B4.kp; replace K3 := hidden (K3.out.step b2); replace KS := hidden (KS.out.step b2); replace KL := hidden (KL.out.step b2); clear B4 hl4 hg4)
        | ((with_reducible refine at_bxd 5 ?_); refine wpList_bx _ rfl _ _ rfl _ rfl ?_; intro w3 g5 hg5 hl5 B5 b3; have K5 := hidden B5.kp; replace K4 := hidden (K4.out.step b3); replace K3 := hidden (K3.out.step b3); replace KS := hidden (KS.out.step b3); replace KL := hidden (KL.out.step b3); have c5 := HK.out _ _ _ B5; have s5 := proof_side B5; clear hl5 hg5)
        | ((with_reducible refine at_ldd 25 4 ?_); refine wpList_ld _ rfl _ _ rfl g4 _ rfl K4.out.now _ _ Tryz.underlying24 HSk.out ?_)
        | ((with_reducible refine at_ldd 26 5 ?_); refine wpList_lds _ rfl _ _ rfl g5 _ _ rfl K5.out.now HUP.out (HSP.out _) ?_)
        | (go_at_call 47; refine (HUp.out _ KS.out.now KL.out.now).mono ?_; rintro e w5 ⟨rfl, b5⟩; replace K3 := hidden (K3.out.step b5))
        | ((with_reducible refine at_ald 7 ?_); refine wpList_al _ rfl _ rfl _ zero_hash ?_; intro w6 g7 hg7 hl7 B7 b6; clear hl7)
        | ((with_reducible refine at_st 7 ?_); refine wpList_sto _ rfl _ _ _ rfl g7 _ (B U) rfl rfl B7 HSu.out.1 HSu.out.2 (B_one _) ?_; intro w7 B7' r7; have b7 := below_row b6 r7 hg7; replace K3 := hidden (K3.out.step b7))
        | ((with_reducible refine at_ldd 33 7 ?_); refine wpList_ldg _ rfl _ _ rfl g7 _ rfl B7' _ _ Tryz.underlying25 HSu.out.1 ?_)
        | ((with_reducible refine at_ldd 34 3 ?_); refine wpList_ldg _ rfl _ _ rfl g3 _ rfl K3.out.now _ _ Tryz.underlying25 HSr.out.1 ?_))
    go_ret
    exact ⟨rfl, grow_trans b1 (grow_trans b2 (grow_trans b3 (grow_trans b5 b7)))⟩

end Go.Proofs.YtpihigcnoifcfaaGreatDoor
