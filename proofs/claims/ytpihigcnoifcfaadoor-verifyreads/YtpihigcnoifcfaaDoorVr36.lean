/- VerifyReads' walk: the law returns true at every root, key, value and bytes, and nothing that was in memory turns. -/
import Derived.Test.YtpihigcnoifcfaaDoorVr35
import Derived.Test.YtpihigcnoifcfaaDoorVr25
import Derived.Test.YtpihigcnoifcfaaDoorRows
import Derived.Test.YtpihigcnoifcfaaDoorVr08
import Derived.ProofKit
import Derived.LaidMore
import Derived.OpenShut
import Derived.Stop.Joined
import Derived.Lib.LaidTab
import Derived.ShutString
import Derived.ChangeOld
import Derived.Below
import Derived.SizedLaws
namespace Go.Proofs.YtpihigcnoifcfaaDoor
set_option maxRecDepth 20000
open Go.RowKit

/-- []api.Hash{x, y}. -/
theorem wpList_bs2h {ops : Array Oper} {rest : List Oper} {op : Oper} {a : Act} {Q : Exit → Act → World → Prop} (w : World) (hgd : op.guard = none) (x y : Operand) (ho : op.op = .buildSlice 32 2 #[(0, x), (1, y)])
    (h1 h2 : List Int) (hx : a.eval x = .agg (B h1)) (hy : a.eval y = .agg (B h2)) (l1 : h1.length = 32) (l2 : h2.length = 32)
    (hk : ∀ w' g, w.heap.size ≤ g → Blk w' g 23 (B (h1 ++ h2)) → Below w.heap.size w w' → wpList Tryd.prog ops Q rest (a.put op.dst (.slice (some ⟨g, 0, none⟩) 2 2)) w') : wpList Tryd.prog ops Q (op :: rest) a w := by
  refine wpList_plain hgd fun K hK => ?_
  obtain ⟨i, z, hi, hz, hs, _, hzs⟩ := info_hash
  have hrun := run_buildSlice (P := Tryd.prog) w 32 23 2 #[(0, .agg (B h1)), (1, .agg (B h2))] (B (h1 ++ h2)) i z Tryd.underlying32 hi hz (by rw [hs]; omega) (by rw [hs]; omega) (by
    rw [hs]
    obtain ⟨zs, hzz, hzl⟩ : ∃ zs : List Value, (Array.range (2 * 32)).map (z.cells[· % z.cells.size]!) = zs.toArray ∧ zs.length = 64 := ⟨_, (Array.toArray_toList).symm, by simp⟩
    rw [hzz]
    have e1 := fill_one (fun i => some (i * 32, 32)) 0 0 32 (.agg (B h1)) (h1.map (Value.int .u8)) zs [(1, .agg (B h2))] rfl rfl (by simp [l1]) (by omega)
    have e2 := fill_one (fun i => some (i * 32, 32)) 1 32 32 (.agg (B h2)) (h2.map (Value.int .u8)) (zs.take 0 ++ h1.map (Value.int .u8) ++ zs.drop (0 + 32)) [] rfl rfl (by simp [l2]) (by simp [l1]; omega)
    rw [show (#[(0, Value.agg (B h1)), (1, Value.agg (B h2))] : Array (Nat × Value)).toList = [(0, Value.agg (B h1)), (1, Value.agg (B h2))] from rfl, e1, e2, Instr.fill]
    have t1 : (h1.map (Value.int .u8) ++ zs.drop 32).take 32 = h1.map (Value.int .u8) := by rw [show 32 = (h1.map (Value.int .u8)).length by simp [l1], List.take_left]
    have t2 : (h1.map (Value.int .u8) ++ zs.drop 32).drop 64 = [] := List.drop_eq_nil_of_le (by simp [l1]; omega)
    simp only [List.take_zero, List.nil_append, Nat.zero_add, B, List.map_append, Nat.reduceAdd]
    rw [t1, t2]
    simp)
  unfold Oper.wp execOp
  simp only [ho, List.map_toArray, List.map_cons, List.map_nil, hx, hy, Sem.run_bind, hrun, Result.andThen_ok, Sem.run_pure]
  exact hK _ _ (hk _ w.heap.size (Nat.le_refl _) (Blk.new w _ _) (grow_alloc w _))

theorem vfT_key (key zs : List Int) (k : Int) (a b c d : List Int) : Key (vfT key zs k a b c d) := by
  unfold vfT upH
  split
  · split
    · exact ⟨rfl, z32_bytes⟩
    · split
      · exact ⟨(upD_ok key _ 0 _ (dgN_ok k a b c d).1 (dgN_ok k a b c d).2).1, (upD_ok key _ 0 _ (dgN_ok k a b c d).1 (dgN_ok k a b c d).2).2⟩
      · exact ⟨rfl, z32_bytes⟩
  · exact ⟨rfl, z32_bytes⟩

/-- The one of two that a round asks for. -/
def rtI (x y : List Int) (i : Nat) : List Int := if i = 0 then x else y
theorem rtI_range {w : World} {g : Nat} {t : TypeId} {x y : List Int} (h : Blk w g t (B (x ++ y))) (lx : x.length = 32) {i : Nat} (hi : i < 2) : w.rangeAt g (i * 32) ((rtI x y i).map (Value.int .u8)) := by
  have hs : Seg (x ++ y) (i * 32) (rtI x y i) := by
    unfold rtI
    match i, hi with
    | 0, _ => exact Seg.mid [] x y 0 rfl
    | 1, _ =>
      have := Seg.mid x y [] 32 lx
      rw [List.append_nil] at this
      exact this
  exact hs.range h

/-- A region's two orders lead to one state: what follows is shown once. -/
theorem wpAnyH_via1 {P : Program} {md : Region.Mode} {ops : Array Oper} {Q : Exit → Act → World → Prop} {S : World → Prop} {fuel : Nat} {listed : Array Bool} {a : Act} {w : World} (upd : Nat → Act → Act) (F : Nat → World → Prop)
    (hp : ∀ c d v a w, Q (.panic c) (a.put d v) w → Q (.panic c) a w)
    (hb : ∀ Q' : Exit → Act → World → Prop, (∀ c d v a w, Q' (.panic c) (a.put d v) w → Q' (.panic c) a w) → (∀ g w', F g w' → Q' .normal (upd g a) w') → wpAnyH P md ops Q' S fuel listed a w) (hc : ∀ g w', F g w' → Q .normal (upd g a) w') : wpAnyH P md ops Q S fuel listed a w := hb Q hp hc

set_option maxRecDepth 100000 in
set_option maxHeartbeats 16000000 in
theorem verifyReads_walk (root key : List Int) (u v : Value) (ys zs : List Int) (w : World) (hroot : Key root) (hkey : Key key) (hu : Reads w u ys) (hv : Reads w v zs) (hly : ys.length ≤ 140737488355328 - 4096) (hlz : zs.length ≤ 140737488355328 - 4096) (hL : Laid w) :
    Calls Tryd.prog 3 #[.agg (B root), .agg (B key), u, v] w fun e w' => e = .returned (.bool true) ∧ Below w.heap.size w w' := by
  have KU := hidden hu.kp
  have KV := hidden hv.kp
  have KW := hidden (below_kp w)
  have KL := hidden hL.kp
  have hbz : Bytes zs := by obtain ⟨_, _, _, _, _, hb, _⟩ := hv; exact hb
  have hby : Bytes ys := by obtain ⟨_, _, _, _, _, hb, _⟩ := hu; exact hb
  obtain ⟨k, a, b, c, d, hdn, hN⟩ := dp_nd hbz
  have HRB : Hid (∀ w' g, Row w' g (zs ++ marks zs.length) → Reads w' (.slice (some ⟨g, 0, none⟩) zs.length (zs.length + 5)) zs) := fun w' g h => row_reads h hbz
  have HRY : Hid (∀ w' g, Row w' g (ys ++ marks ys.length) → Reads w' (.slice (some ⟨g, 0, none⟩) ys.length (ys.length + 5)) ys) := fun w' g h => row_reads h hby
  have HLE : Hid (∀ w', Reads w' v zs → Calls Tryd.prog 4 #[v] w' fun e w'' => ∃ g, e = .returned (.slice (some ⟨g, 0, none⟩) zs.length (zs.length + 5)) ∧ w'.heap.size ≤ g ∧ Row w'' g (zs ++ marks zs.length) ∧ Below w'.heap.size w' w'') := fun w' h => lent_at v zs w' h (by omega)
  have HLY : Hid (∀ w', Reads w' u ys → Calls Tryd.prog 4 #[u] w' fun e w'' => ∃ g, e = .returned (.slice (some ⟨g, 0, none⟩) ys.length (ys.length + 5)) ∧ w'.heap.size ≤ g ∧ Row w'' g (ys ++ marks ys.length) ∧ Below w'.heap.size w' w'') := fun w' h => lent_at u ys w' h (by omega)
  have HKP : Hid (∀ w' g, Row w' g (zs ++ marks zs.length) → Reads w' v zs → Calls Tryd.prog 13 #[.slice (some ⟨g, 0, none⟩) zs.length (zs.length + 5), v] w' fun e w'' => e = .returned (.bool true) ∧ Below w'.heap.size w' w'') := fun w' g h1 h2 => kept_true g v zs w' h1 h2 (by omega)
  have HKY : Hid (∀ w' g, Row w' g (ys ++ marks ys.length) → Reads w' u ys → Calls Tryd.prog 13 #[.slice (some ⟨g, 0, none⟩) ys.length (ys.length + 5), u] w' fun e w'' => e = .returned (.bool true) ∧ Below w'.heap.size w' w'') := fun w' g h1 h2 => kept_true g u ys w' h1 h2 (by omega)
  have HTp : Hid (∀ w' x, Reads w' x zs → Laid w' → Calls Tryd.prog 5 #[.agg (B key), x] w' fun e w'' => e = .returned (.tuple #[.agg (B (vfT key zs k a b c d)), .int .i64 (dpE zs)]) ∧ Below w'.heap.size w' w'') := fun w' x h1 h2 => vtop_any key x zs k a b c d w' hkey h1 (by omega) h2 hdn hN
  have HTr : Hid (∀ w', Reads w' v zs → Calls Tryd.prog 6 #[.agg (B key), v] w' fun e w'' => e = .returned (.tuple #[.agg (B (vfT key zs k a b c d)), .int .i64 (dpE zs)]) ∧ Below w'.heap.size w' w'') := fun w' h1 => rtop_any key v zs k a b c d w' hkey h1 hlz hdn hN
  have HRd : Hid (∀ R, Key R → ∀ w' x, Reads w' x zs → Laid w' → Calls Tryd.prog 7 #[.agg (B R), .agg (B key), x] w' fun e w'' => e = .returned (.tuple #[.agg (sdP (rdB R key zs k a b c d) (rdV R key zs k a b c d)).toArray, .int .i64 (rdE R key zs k a b c d)]) ∧ Below w'.heap.size w' w'') := fun R hR w' x h1 h2 => vread_any R key x zs k a b c d w' hR hkey h1 (by omega) h2 hdn hN
  have HRr : Hid (∀ R, Key R → ∀ w', Reads w' v zs → Calls Tryd.prog 8 #[.agg (B R), .agg (B key), v] w' fun e w'' => e = .returned (.tuple #[.agg (sdP (rdB R key zs k a b c d) (rdV R key zs k a b c d)).toArray, .int .i64 (rdE R key zs k a b c d)]) ∧ Below w'.heap.size w' w'') := fun R hR w' h1 => rsaid_any R key v zs k a b c d w' hR hkey h1 hlz hdn hN
  have HPr : Hid (∀ R, Key R → ∀ w' x y, Reads w' y ys → Reads w' x zs → Laid w' → Calls Tryd.prog 9 #[.agg (B R), .agg (B key), y, x] w' fun e w'' => e = .returned (.bool (psB R key ys zs k a b c d)) ∧ Below w'.heap.size w' w'') := fun R hR w' x y h0 h1 h2 => vpresent_any R key y x ys zs k a b c d w' hR hkey h0 h1 (by omega) h2 hdn hN
  have HPq : Hid (∀ R, Key R → ∀ w', Reads w' u ys → Reads w' v zs → Calls Tryd.prog 10 #[.agg (B R), .agg (B key), u, v] w' fun e w'' => e = .returned (.bool (psB R key ys zs k a b c d)) ∧ Below w'.heap.size w' w'') := fun R hR w' h0 h1 => rpresent_any R key u v ys zs k a b c d w' hR hkey h0 h1 hlz hdn hN
  have HAb : Hid (∀ R, Key R → ∀ w' x, Reads w' x zs → Laid w' → Calls Tryd.prog 11 #[.agg (B R), .agg (B key), x] w' fun e w'' => e = .returned (.bool (abB R key zs k a b c d)) ∧ Below w'.heap.size w' w'') := fun R hR w' x h1 h2 => vabsent_any R key x zs k a b c d w' hR hkey h1 (by omega) h2 hdn hN
  have HAr : Hid (∀ R, Key R → ∀ w', Reads w' v zs → Calls Tryd.prog 12 #[.agg (B R), .agg (B key), v] w' fun e w'' => e = .returned (.bool (abB R key zs k a b c d)) ∧ Below w'.heap.size w' w'') := fun R hR w' h1 => rabsent_any R key v zs k a b c d w' hR hkey h1 hlz hdn hN
  have HVL : Hid (∀ R, (rdV R key zs k a b c d).length = 32) := fun R => rdV_length R key zs k a b c d hN.lb
  have HTK := hidden (vfT_key key zs k a b c d)
  have HRK := hidden hroot
  have HSr := hidden (hash_sz root hroot.1)
  have HSU := hidden (hash_sz _ (vfT_length key zs k a b c d))
  have HSk : Hid ((Tryd.prog.info? 24).map (·.size) = some (B key).size) := by show _ = _; rw [B_size, hkey.1]; exact sz_path
  have hqT : ∀ w, (Op.equalIn 10000 23 (.agg (B (vfT key zs k a b c d))) (.agg (B (vfT key zs k a b c d)))).run Tryd.prog w = .ok true w := fun w => by have := hash_eq _ _ (vfT_length key zs k a b c d) (vfT_length key zs k a b c d) w; simpa using this
  have hwe : ∀ x : Int, (x != x) = false := fun x => by simp
  obtain ⟨fs, hus⟩ := u_said
  have HUS := hidden hus
  obtain ⟨va, vc, rfl, _⟩ := hv
  obtain ⟨ua, uc, rfl, _⟩ := hu
  obtain ⟨l, hll⟩ : ∃ l, l = zs.length := ⟨_, rfl⟩
  obtain ⟨l5, hl5⟩ : ∃ l5, l5 = zs.length + 5 := ⟨_, rfl⟩
  obtain ⟨m, hmm⟩ : ∃ m, m = ys.length := ⟨_, rfl⟩
  obtain ⟨m5, hm5⟩ : ∃ m5, m5 = ys.length + 5 := ⟨_, rfl⟩
  rw [← hl5, ← hll] at HRB HLE HKP
  rw [← hm5, ← hmm] at HRY HLY HKY
  rw [← hll] at KV HTr HRr HPq HAr ⊢
  rw [← hmm] at KU HPq ⊢
  clear hbz hby hly hlz hL hll hl5 hmm hm5 hdn hN hus hroot hkey
  generalize vfT key zs k a b c d = T at *
  generalize dpE zs = E0 at *
  go_enter Tryd.func3, Tryd.ntmps3
  go_wp2_with (first
    | ((with_reducible refine at_bxd 4 ?_); refine wpList_bx _ rfl _ _ rfl _ rfl ?_; intro x1 g4 hg1 hl1 bq1 q1; replace KU := hidden (KU.out.step q1); replace KV := hidden (KV.out.step q1); replace KW := hidden (KW.out.step q1); replace KL := hidden (KL.out.step q1); have K4 := hidden bq1.kp; clear hg1 hl1 bq1 q1)
    | ((with_reducible refine at_bxd 5 ?_); refine wpList_bx _ rfl _ _ rfl _ rfl ?_; intro x2 g5 hg2 hl2 bq2 q2; replace KU := hidden (KU.out.step q2); replace KV := hidden (KV.out.step q2); replace KW := hidden (KW.out.step q2); replace KL := hidden (KL.out.step q2); replace K4 := hidden (K4.out.step q2); have K5 := hidden bq2.kp; clear hg2 hl2 bq2 q2)
    | ((with_reducible refine at_ldd 26 5 ?_); refine wpList_ld _ rfl _ _ rfl g5 _ rfl K5.out.now _ _ Tryd.underlying24 HSk.out ?_)
    | ((with_reducible refine at_ald 11 ?_); refine wpList_al _ rfl _ rfl _ zero_hash ?_; intro x6 g11 hg11 hl6 bq6 q6; clear hl6)
    | ((with_reducible refine at_st 11 ?_); refine wpList_sto _ rfl _ _ _ rfl g11 _ ((B T)) rfl rfl bq6 HSU.out.1 HSU.out.2 (B_one _) ?_; intro x7 by7 r7; have q7 := below_row q6 r7 hg11; replace KU := hidden (KU.out.step q7); replace KV := hidden (KV.out.step q7); replace KW := hidden (KW.out.step q7); replace KL := hidden (KL.out.step q7); replace K4 := hidden (K4.out.step q7); replace K5 := hidden (K5.out.step q7); replace KR := hidden (KR.out.step q7); replace KS := hidden (KS.out.step q7); have K11 := hidden by7.kp; clear q7 q6 r7 by7 bq6 hg11)
    | ((with_reducible refine at_ldd 32 5 ?_); refine wpList_ld _ rfl _ _ rfl g5 _ rfl K5.out.now _ _ Tryd.underlying24 HSk.out ?_)
    | ((with_reducible refine at_ald 13 ?_); refine wpList_al _ rfl _ rfl _ zero_hash ?_; intro x9 g13 hg13 hl9 bq9 q9; clear hl9)
    | ((with_reducible refine at_st 13 ?_); refine wpList_sto _ rfl _ _ _ rfl g13 _ ((B T)) rfl rfl bq9 HSU.out.1 HSU.out.2 (B_one _) ?_; intro x10 by10 r10; have q10 := below_row q9 r10 hg13; replace KU := hidden (KU.out.step q10); replace KV := hidden (KV.out.step q10); replace KW := hidden (KW.out.step q10); replace KL := hidden (KL.out.step q10); replace K4 := hidden (K4.out.step q10); replace K5 := hidden (K5.out.step q10); replace KR := hidden (KR.out.step q10); replace KS := hidden (KS.out.step q10); replace K11 := hidden (K11.out.step q10); have K13 := hidden by10.kp; clear q10 q9 r10 by10 bq9 hg13)
    | ((with_reducible refine at_ldd 37 11 ?_); refine wpList_ld _ rfl _ _ rfl g11 _ rfl K11.out.now _ _ Tryd.underlying23 HSU.out.1 ?_)
    | ((with_reducible refine at_ldd 38 13 ?_); refine wpList_ld _ rfl _ _ rfl g13 _ rfl K13.out.now _ _ Tryd.underlying23 HSU.out.1 ?_)
    | ((with_reducible refine at_ldd 46 13 ?_); refine wpList_ld _ rfl _ _ rfl g13 _ rfl K13.out.now _ _ Tryd.underlying23 HSU.out.1 ?_)
    | ((with_reducible refine at_ldd 45 4 ?_); refine wpList_ld _ rfl _ _ rfl g4 _ rfl K4.out.now _ _ Tryd.underlying23 HSr.out.1 ?_)
    | (refine wpList_bs2h _ rfl _ _ rfl root T rfl rfl HRK.out.1 HTK.out.1 ?_; intro x11 gL hgL BL q11; replace KU := hidden (KU.out.step q11); replace KV := hidden (KV.out.step q11); replace KW := hidden (KW.out.step q11); replace KL := hidden (KL.out.step q11); replace K4 := hidden (K4.out.step q11); replace K5 := hidden (K5.out.step q11); replace KR := hidden (KR.out.step q11); replace KS := hidden (KS.out.step q11); replace K11 := hidden (K11.out.step q11); replace K13 := hidden (K13.out.step q11); have KB := hidden BL.kp; clear hgL BL q11)
    | (go_at_call 6; refine (HTr.out _ KV.out.now).mono ?_; rintro e x8 ⟨rfl, q8⟩; replace KU := hidden (KU.out.step q8); replace KV := hidden (KV.out.step q8); replace KW := hidden (KW.out.step q8); replace KL := hidden (KL.out.step q8); replace K4 := hidden (K4.out.step q8); replace K5 := hidden (K5.out.step q8); replace KR := hidden (KR.out.step q8); replace KS := hidden (KS.out.step q8); replace K11 := hidden (K11.out.step q8); have mk_frootcellarref18Top_1 : Hid True := trivial; clear q8)
    | (go_at_call 5; refine (HTp.out _ _ (HRB.out _ _ KR.out.now) KL.out.now).mono ?_; rintro e x5 ⟨rfl, q5⟩; replace KU := hidden (KU.out.step q5); replace KV := hidden (KV.out.step q5); replace KW := hidden (KW.out.step q5); replace KL := hidden (KL.out.step q5); replace K4 := hidden (K4.out.step q5); replace K5 := hidden (K5.out.step q5); replace KR := hidden (KR.out.step q5); replace KS := hidden (KS.out.step q5); have mk_fverifyTop_1 : Hid True := trivial; clear q5)
    | (go_at_call 4; have mk := mk_frootcellarkitLentBytes_1; clear mk; refine (HLY.out _ KU.out.now).mono ?_; rintro e x4 ⟨gm, rfl, hgm, rm, q4⟩; replace KU := hidden (KU.out.step q4); replace KV := hidden (KV.out.step q4); replace KW := hidden (KW.out.step q4); replace KL := hidden (KL.out.step q4); replace K4 := hidden (K4.out.step q4); replace K5 := hidden (K5.out.step q4); replace KR := hidden (KR.out.step q4); have KS := hidden (row_kp rm); clear rm hgm; have mk_frootcellarkitLentBytes_2 : Hid True := trivial; clear q4)
    | (go_at_call 4; refine (HLE.out _ KV.out.now).mono ?_; rintro e x3 ⟨gl, rfl, hgl, rl, q3⟩; replace KU := hidden (KU.out.step q3); replace KV := hidden (KV.out.step q3); replace KW := hidden (KW.out.step q3); replace KL := hidden (KL.out.step q3); replace K4 := hidden (K4.out.step q3); replace K5 := hidden (K5.out.step q3); have KR := hidden (row_kp rl); clear rl hgl; have mk_frootcellarkitLentBytes_1 : Hid True := trivial; clear q3))
  have HALL : Hid (True ∧ True ∧ True ∧ True ∧ True ∧ True ∧ True ∧ True ∧ True ∧ True ∧ True) := ⟨trivial, trivial, trivial, trivial, trivial, trivial, trivial, trivial, trivial, trivial, trivial⟩
  clear HALL
  go_loopw [16] (fun iv wr => ∃ i : Nat, i ≤ 2 ∧ iv = .int .i64 (i : Int) ∧ Hid (Below x11.heap.size x11 wr)) (fun iv _ => 2 - (intOf iv).toNat)
  case atStart => exact ⟨0, by omega, rfl, Below.refl _ _⟩
  case round =>
    obtain ⟨i, hi, rfl, hb⟩ := hrel
    replace KU := hidden (KU.out.step hb.out)
    replace KV := hidden (KV.out.step hb.out)
    replace KW := hidden (KW.out.step hb.out)
    replace KL := hidden (KL.out.step hb.out)
    replace K4 := hidden (K4.out.step hb.out)
    replace K5 := hidden (K5.out.step hb.out)
    replace KR := hidden (KR.out.step hb.out)
    replace KS := hidden (KS.out.step hb.out)
    replace K11 := hidden (K11.out.step hb.out)
    replace K13 := hidden (K13.out.step hb.out)
    replace KB := hidden (KB.out.step hb.out)
    by_cases hlt : i < 2
    · have z1 : (i : Int) < (2 : Int) := by omega
      have z0 : (0 : Int) ≤ (i : Int) := by omega
      have HKR : Hid (Key (rtI root T i)) := by
        show Key _
        unfold rtI
        split
        · exact HRK.out
        · exact HTK.out
      have HRG : Hid (∀ w', Blk w' gL 23 (B (root ++ T)) → w'.rangeAt gL (i * 32) ((rtI root T i).map (Value.int .u8))) := fun w' h => rtI_range h HRK.out.1 hlt
      generalize rtI root T i = R at *
      go_wp2
      have KZ : Hid (Kp wr (fun w' => Below x11.heap.size x11 w')) := hidden (fun _ q => grow_trans hb.out q)
      have HRd1 := hidden (HRd.out R HKR.out)
      have HRr1 := hidden (HRr.out R HKR.out)
      have HPr1 := hidden (HPr.out R HKR.out)
      have HPq1 := hidden (HPq.out R HKR.out)
      have HAb1 := hidden (HAb.out R HKR.out)
      have HAr1 := hidden (HAr.out R HKR.out)
      have HSD := hidden (said_sz (rdB R key zs k a b c d) (rdV R key zs k a b c d) (HVL.out R))
      have HOn := hidden (said_one (rdB R key zs k a b c d) (rdV R key zs k a b c d))
      have hqS : ∀ w, (Op.equalIn 10000 34 (.agg (sdP (rdB R key zs k a b c d) (rdV R key zs k a b c d)).toArray) (.agg (sdP (rdB R key zs k a b c d) (rdV R key zs k a b c d)).toArray)).run Tryd.prog w = .ok true w := fun w => by have := said_eq (t := rdB R key zs k a b c d) (u := rdB R key zs k a b c d) (HVL.out R) (HVL.out R) w; simpa using this
      have HLR : Hid ((Tryd.prog.info? 23).map (·.size) = some (B R).toList.length) := hash_ln R HKR.out.1
      have HLk : Hid ((Tryd.prog.info? 24).map (·.size) = some (B key).toList.length) := by show _ = _; rw [Array.length_toList]; exact HSk.out
      clear HRd HRr HPr HPq HAb HAr HVL hb
      generalize (sdP (rdB R key zs k a b c d) (rdV R key zs k a b c d)).toArray = SD at *
      generalize rdE R key zs k a b c d = E at *
      generalize psB R key ys zs k a b c d = P at *
      generalize abB R key zs k a b c d = A at *
      refine wp_region_held_drew (S := fun w' => Below wr.heap.size wr w') (by kernel_rfl) (below_drewN (Below.refl _ _) 1) (fun hHeld => ?_)
      refine wpAnyH_take (i := 0) (v := .slice (some ⟨gL, 0, none⟩) 2 2) rfl (by kernel_rfl) (by kernel_rfl) (by kernel_rfl) (fun _ _ _ h => h) (Or.inl ⟨by rfl, fun w hS => by go_simp⟩) hHeld ?_
      simp only [Act.put, List.getElem_toArray, List.getElem_cons_zero, List.setIfInBounds_toArray, List.set_cons_zero, List.set_cons_succ]
      refine wpAnyH_take (i := 1) (v := .int .i64 (i : Int)) rfl (by kernel_rfl) (by kernel_rfl) (by kernel_rfl) (fun _ _ _ h => h) (Or.inl ⟨by rfl, fun w hS => by go_simp⟩) hHeld ?_
      simp only [Act.put, List.getElem_toArray, List.getElem_cons_zero, List.getElem_cons_succ, List.setIfInBounds_toArray, List.set_cons_zero, List.set_cons_succ]
      refine wpAnyH_take (i := 2) (v := .pointer (some ⟨gL, i * 32, none⟩)) rfl (by kernel_rfl) (by kernel_rfl) (by kernel_rfl) (fun _ _ _ h => h) (Or.inl ⟨by rfl, fun w hS => by go_simp⟩) hHeld ?_
      simp only [Act.put, List.getElem_toArray, List.getElem_cons_zero, List.getElem_cons_succ, List.setIfInBounds_toArray, List.set_cons_zero, List.set_cons_succ]
      refine wpAnyH_take (i := 3) (v := .agg (B R)) rfl (by kernel_rfl) (by kernel_rfl) (by kernel_rfl) (fun _ _ _ h => h) (yieldsIf_load_mid rfl 23 (.tmp 57) rfl gL (i * 32) rfl (B R).toList _ (fun w hS => HRG.out _ (KB.out _ hS)) Tryd.underlying23 rfl HLR.out) hHeld ?_
      simp only [Act.put, List.getElem_toArray, List.getElem_cons_zero, List.getElem_cons_succ, List.setIfInBounds_toArray, List.set_cons_zero, List.set_cons_succ]
      refine wpAnyH_take (i := 4) (v := .agg (B key)) rfl (by kernel_rfl) (by kernel_rfl) (by kernel_rfl) (fun _ _ _ h => h) (yieldsIf_load_mid rfl 24 (.tmp 5) rfl g5 (0) rfl (B key).toList _ (fun w hS => (K5.out _ hS).range) Tryd.underlying24 rfl HLk.out) hHeld ?_
      simp only [Act.put, List.getElem_toArray, List.getElem_cons_zero, List.getElem_cons_succ, List.setIfInBounds_toArray, List.set_cons_zero, List.set_cons_succ]
      refine wpAnyH_take (i := 5) (v := .slice (some ⟨gl, 0, none⟩) l l5) rfl (by kernel_rfl) (by kernel_rfl) (by kernel_rfl) (fun _ _ _ h => h) (Or.inl ⟨by rfl, fun w hS => by go_simp⟩) hHeld ?_
      simp only [Act.put, List.getElem_toArray, List.getElem_cons_zero, List.getElem_cons_succ, List.setIfInBounds_toArray, List.set_cons_zero, List.set_cons_succ]
      refine wpAnyH_via1 (fun g a => (((((a.put (some 61) (.tuple #[.agg SD, .int .i64 E])).put (some 54) (.tuple #[.agg SD, .int .i64 E])).put (some 62) (.agg SD)).put (some 63) (.int .i64 E)).put (some 17) (.pointer (some ⟨g, 0, none⟩))).put (some 18) (.int .i64 E)) (fun g w' => Blk w' g 34 SD ∧ Below wr.heap.size wr w') (fun _ d _ _ _ h => by cases d <;> exact h) (fun KK hPK hKK => ?_) ?_
      · simp only [Act.put, List.setIfInBounds_toArray, List.set_cons_zero, List.set_cons_succ] at hKK
        generalize wr.drew = z0 at hHeld ⊢
        refine wpAnyH_ready (rs := [6, 10]) (by kernel_rfl) (by simp) ?_
        refine AllReadyH.cons rfl (fun KQ hK => ?_) (AllReadyH.cons rfl (fun KQ hK => ?_) AllReadyH.nil)
        · go_simp
          refine (HRd1.out _ _ (HRB.out _ _ (KR.out _ hHeld)) (KL.out _ hHeld)).mono ?_
          rintro e y1 ⟨rfl, a1⟩
          refine hK.out _ _ (grow_trans hHeld a1) (fun hHeld => ?_)
          clear hK KQ
          refine wpAnyH_take (i := 7) (v := .tuple #[.agg SD, .int .i64 E]) rfl (by kernel_rfl) (by kernel_rfl) (by kernel_rfl) (fun _ _ _ h => hPK _ _ _ _ _ h) (Or.inl ⟨by rfl, fun w hS => by go_simp⟩) hHeld ?_
          simp only [Act.put, List.getElem_toArray, List.getElem_cons_zero, List.getElem_cons_succ, List.setIfInBounds_toArray, List.set_cons_zero, List.set_cons_succ]
          refine wpAnyH_take (i := 8) (v := .agg SD) rfl (by kernel_rfl) (by kernel_rfl) (by kernel_rfl) (fun _ _ _ h => hPK _ _ _ _ _ h) (Or.inl ⟨by rfl, fun w hS => by go_simp⟩) hHeld ?_
          simp only [Act.put, List.getElem_toArray, List.getElem_cons_zero, List.getElem_cons_succ, List.setIfInBounds_toArray, List.set_cons_zero, List.set_cons_succ]
          refine wpAnyH_take (i := 9) (v := .int .i64 E) rfl (by kernel_rfl) (by kernel_rfl) (by kernel_rfl) (fun _ _ _ h => hPK _ _ _ _ _ h) (Or.inl ⟨by rfl, fun w hS => by go_simp⟩) hHeld ?_
          simp only [Act.put, List.getElem_toArray, List.getElem_cons_zero, List.getElem_cons_succ, List.setIfInBounds_toArray, List.set_cons_zero, List.set_cons_succ]
          refine wpAnyH_ready (rs := [10]) (by kernel_rfl) (by simp) ?_
          refine AllReadyH.cons rfl (fun KQ hK => ?_) AllReadyH.nil
          refine step_alv _ rfl _ rfl _ zero_said ?_
          intro z2 bS a2
          have hG := hHeld.size
          obtain ⟨gS, hgS⟩ : ∃ gS, gS = y1.heap.size := ⟨_, rfl⟩
          rw [← hgS] at bS hG ⊢
          clear hgS
          refine hK.out _ _ (grow_trans hHeld a2) (fun hHeld => ?_)
          clear hK KQ
          refine wpAnyH_ready (rs := [11]) (by kernel_rfl) (by simp) ?_
          refine AllReadyH.cons rfl (fun KQ hK => ?_) AllReadyH.nil
          refine step_sto _ rfl _ _ _ rfl gS _ SD rfl rfl bS HSD.out.1 HSD.out.2 HOn.out ?_
          intro z4 bE rE
          refine hK.out _ _ (below_row hHeld rE hG) (fun hHeld => ?_)
          clear hK KQ
          refine wpAnyH_take (i := 12) (v := .int .i64 E) rfl (by kernel_rfl) (by kernel_rfl) (by kernel_rfl) (fun _ _ _ h => hPK _ _ _ _ _ h) (Or.inl ⟨by rfl, fun w hS => by go_simp⟩) hHeld ?_
          simp only [Act.put, List.getElem_toArray, List.getElem_cons_zero, List.getElem_cons_succ, List.setIfInBounds_toArray, List.set_cons_zero, List.set_cons_succ]
          refine wpAnyH_done (by kernel_rfl) ?_ _
          exact hKK gS _ ⟨bE, hHeld⟩
        · refine step_alv _ rfl _ rfl _ zero_said ?_
          intro z2 bS a2
          have hG := hHeld.size
          obtain ⟨gS, hgS⟩ : ∃ gS, gS = z0.heap.size := ⟨_, rfl⟩
          rw [← hgS] at bS hG ⊢
          clear hgS
          refine hK.out _ _ (grow_trans hHeld a2) (fun hHeld => ?_)
          clear hK KQ
          refine wpAnyH_ready (rs := [6]) (by kernel_rfl) (by simp) ?_
          refine AllReadyH.cons rfl (fun KQ hK => ?_) AllReadyH.nil
          go_simp
          refine (HRd1.out _ _ (HRB.out _ _ (KR.out _ hHeld)) (KL.out _ hHeld)).mono ?_
          rintro e y1 ⟨rfl, a1⟩
          replace bS := bS.grow a1
          refine hK.out _ _ (grow_trans hHeld a1) (fun hHeld => ?_)
          clear hK KQ
          refine wpAnyH_take (i := 7) (v := .tuple #[.agg SD, .int .i64 E]) rfl (by kernel_rfl) (by kernel_rfl) (by kernel_rfl) (fun _ _ _ h => hPK _ _ _ _ _ h) (Or.inl ⟨by rfl, fun w hS => by go_simp⟩) hHeld ?_
          simp only [Act.put, List.getElem_toArray, List.getElem_cons_zero, List.getElem_cons_succ, List.setIfInBounds_toArray, List.set_cons_zero, List.set_cons_succ]
          refine wpAnyH_take (i := 8) (v := .agg SD) rfl (by kernel_rfl) (by kernel_rfl) (by kernel_rfl) (fun _ _ _ h => hPK _ _ _ _ _ h) (Or.inl ⟨by rfl, fun w hS => by go_simp⟩) hHeld ?_
          simp only [Act.put, List.getElem_toArray, List.getElem_cons_zero, List.getElem_cons_succ, List.setIfInBounds_toArray, List.set_cons_zero, List.set_cons_succ]
          refine wpAnyH_take (i := 9) (v := .int .i64 E) rfl (by kernel_rfl) (by kernel_rfl) (by kernel_rfl) (fun _ _ _ h => hPK _ _ _ _ _ h) (Or.inl ⟨by rfl, fun w hS => by go_simp⟩) hHeld ?_
          simp only [Act.put, List.getElem_toArray, List.getElem_cons_zero, List.getElem_cons_succ, List.setIfInBounds_toArray, List.set_cons_zero, List.set_cons_succ]
          refine wpAnyH_ready (rs := [11]) (by kernel_rfl) (by simp) ?_
          refine AllReadyH.cons rfl (fun KQ hK => ?_) AllReadyH.nil
          refine step_sto _ rfl _ _ _ rfl gS _ SD rfl rfl bS HSD.out.1 HSD.out.2 HOn.out ?_
          intro z4 bE rE
          refine hK.out _ _ (below_row hHeld rE hG) (fun hHeld => ?_)
          clear hK KQ
          refine wpAnyH_take (i := 12) (v := .int .i64 E) rfl (by kernel_rfl) (by kernel_rfl) (by kernel_rfl) (fun _ _ _ h => hPK _ _ _ _ _ h) (Or.inl ⟨by rfl, fun w hS => by go_simp⟩) hHeld ?_
          simp only [Act.put, List.getElem_toArray, List.getElem_cons_zero, List.getElem_cons_succ, List.setIfInBounds_toArray, List.set_cons_zero, List.set_cons_succ]
          refine wpAnyH_done (by kernel_rfl) ?_ _
          exact hKK gS _ ⟨bE, hHeld⟩
      · intro g17 x17 hF
        obtain ⟨b17, hB17⟩ := hF
        replace KU := hidden (KU.out.step hB17)
        replace KV := hidden (KV.out.step hB17)
        replace KW := hidden (KW.out.step hB17)
        replace KL := hidden (KL.out.step hB17)
        replace K4 := hidden (K4.out.step hB17)
        replace K5 := hidden (K5.out.step hB17)
        replace KR := hidden (KR.out.step hB17)
        replace KS := hidden (KS.out.step hB17)
        replace K11 := hidden (K11.out.step hB17)
        replace K13 := hidden (K13.out.step hB17)
        replace KB := hidden (KB.out.step hB17)
        replace KZ := hidden (KZ.out.step hB17)
        have K17 := hidden b17.kp
        clear b17 hB17
        simp only [Act.put, List.setIfInBounds_toArray, List.set_cons_zero, List.set_cons_succ]
        go_wp2
        refine wp_region_held_drew (S := fun w' => Below x17.heap.size x17 w') (by kernel_rfl) (below_drewN (Below.refl _ _) 1) (fun hHeld => ?_)
        refine wpAnyH_take (i := 0) (v := .slice (some ⟨gL, 0, none⟩) 2 2) rfl (by kernel_rfl) (by kernel_rfl) (by kernel_rfl) (fun _ _ _ h => h) (Or.inl ⟨by rfl, fun w hS => by go_simp⟩) hHeld ?_
        simp only [Act.put, List.getElem_toArray, List.getElem_cons_zero, List.setIfInBounds_toArray, List.set_cons_zero, List.set_cons_succ]
        refine wpAnyH_take (i := 1) (v := .int .i64 (i : Int)) rfl (by kernel_rfl) (by kernel_rfl) (by kernel_rfl) (fun _ _ _ h => h) (Or.inl ⟨by rfl, fun w hS => by go_simp⟩) hHeld ?_
        simp only [Act.put, List.getElem_toArray, List.getElem_cons_zero, List.getElem_cons_succ, List.setIfInBounds_toArray, List.set_cons_zero, List.set_cons_succ]
        refine wpAnyH_take (i := 2) (v := .pointer (some ⟨gL, i * 32, none⟩)) rfl (by kernel_rfl) (by kernel_rfl) (by kernel_rfl) (fun _ _ _ h => h) (Or.inl ⟨by rfl, fun w hS => by go_simp⟩) hHeld ?_
        simp only [Act.put, List.getElem_toArray, List.getElem_cons_zero, List.getElem_cons_succ, List.setIfInBounds_toArray, List.set_cons_zero, List.set_cons_succ]
        refine wpAnyH_take (i := 3) (v := .agg (B R)) rfl (by kernel_rfl) (by kernel_rfl) (by kernel_rfl) (fun _ _ _ h => h) (yieldsIf_load_mid rfl 23 (.tmp 67) rfl gL (i * 32) rfl (B R).toList _ (fun w hS => HRG.out _ (KB.out _ hS)) Tryd.underlying23 rfl HLR.out) hHeld ?_
        simp only [Act.put, List.getElem_toArray, List.getElem_cons_zero, List.getElem_cons_succ, List.setIfInBounds_toArray, List.set_cons_zero, List.set_cons_succ]
        refine wpAnyH_take (i := 4) (v := .agg (B key)) rfl (by kernel_rfl) (by kernel_rfl) (by kernel_rfl) (fun _ _ _ h => h) (yieldsIf_load_mid rfl 24 (.tmp 5) rfl g5 (0) rfl (B key).toList _ (fun w hS => (K5.out _ hS).range) Tryd.underlying24 rfl HLk.out) hHeld ?_
        simp only [Act.put, List.getElem_toArray, List.getElem_cons_zero, List.getElem_cons_succ, List.setIfInBounds_toArray, List.set_cons_zero, List.set_cons_succ]
        refine wpAnyH_take (i := 5) (v := .slice va l vc) rfl (by kernel_rfl) (by kernel_rfl) (by kernel_rfl) (fun _ _ _ h => h) (Or.inl ⟨by rfl, fun w hS => by go_simp⟩) hHeld ?_
        simp only [Act.put, List.getElem_toArray, List.getElem_cons_zero, List.getElem_cons_succ, List.setIfInBounds_toArray, List.set_cons_zero, List.set_cons_succ]
        refine wpAnyH_via1 (fun g a => (((((a.put (some 71) (.tuple #[.agg SD, .int .i64 E])).put (some 64) (.tuple #[.agg SD, .int .i64 E])).put (some 72) (.agg SD)).put (some 73) (.int .i64 E)).put (some 19) (.pointer (some ⟨g, 0, none⟩))).put (some 20) (.int .i64 E)) (fun g w' => Blk w' g 34 SD ∧ Below x17.heap.size x17 w') (fun _ d _ _ _ h => by cases d <;> exact h) (fun KK hPK hKK => ?_) ?_
        · simp only [Act.put, List.setIfInBounds_toArray, List.set_cons_zero, List.set_cons_succ] at hKK
          generalize x17.drew = z0 at hHeld ⊢
          refine wpAnyH_ready (rs := [6, 10]) (by kernel_rfl) (by simp) ?_
          refine AllReadyH.cons rfl (fun KQ hK => ?_) (AllReadyH.cons rfl (fun KQ hK => ?_) AllReadyH.nil)
          · go_simp
            refine (HRr1.out _ (KV.out _ hHeld)).mono ?_
            rintro e y1 ⟨rfl, a1⟩
            refine hK.out _ _ (grow_trans hHeld a1) (fun hHeld => ?_)
            clear hK KQ
            refine wpAnyH_take (i := 7) (v := .tuple #[.agg SD, .int .i64 E]) rfl (by kernel_rfl) (by kernel_rfl) (by kernel_rfl) (fun _ _ _ h => hPK _ _ _ _ _ h) (Or.inl ⟨by rfl, fun w hS => by go_simp⟩) hHeld ?_
            simp only [Act.put, List.getElem_toArray, List.getElem_cons_zero, List.getElem_cons_succ, List.setIfInBounds_toArray, List.set_cons_zero, List.set_cons_succ]
            refine wpAnyH_take (i := 8) (v := .agg SD) rfl (by kernel_rfl) (by kernel_rfl) (by kernel_rfl) (fun _ _ _ h => hPK _ _ _ _ _ h) (Or.inl ⟨by rfl, fun w hS => by go_simp⟩) hHeld ?_
            simp only [Act.put, List.getElem_toArray, List.getElem_cons_zero, List.getElem_cons_succ, List.setIfInBounds_toArray, List.set_cons_zero, List.set_cons_succ]
            refine wpAnyH_take (i := 9) (v := .int .i64 E) rfl (by kernel_rfl) (by kernel_rfl) (by kernel_rfl) (fun _ _ _ h => hPK _ _ _ _ _ h) (Or.inl ⟨by rfl, fun w hS => by go_simp⟩) hHeld ?_
            simp only [Act.put, List.getElem_toArray, List.getElem_cons_zero, List.getElem_cons_succ, List.setIfInBounds_toArray, List.set_cons_zero, List.set_cons_succ]
            refine wpAnyH_ready (rs := [10]) (by kernel_rfl) (by simp) ?_
            refine AllReadyH.cons rfl (fun KQ hK => ?_) AllReadyH.nil
            refine step_alv _ rfl _ rfl _ zero_said ?_
            intro z2 bS a2
            have hG := hHeld.size
            obtain ⟨gS, hgS⟩ : ∃ gS, gS = y1.heap.size := ⟨_, rfl⟩
            rw [← hgS] at bS hG ⊢
            clear hgS
            refine hK.out _ _ (grow_trans hHeld a2) (fun hHeld => ?_)
            clear hK KQ
            refine wpAnyH_ready (rs := [11]) (by kernel_rfl) (by simp) ?_
            refine AllReadyH.cons rfl (fun KQ hK => ?_) AllReadyH.nil
            refine step_sto _ rfl _ _ _ rfl gS _ SD rfl rfl bS HSD.out.1 HSD.out.2 HOn.out ?_
            intro z4 bE rE
            refine hK.out _ _ (below_row hHeld rE hG) (fun hHeld => ?_)
            clear hK KQ
            refine wpAnyH_take (i := 12) (v := .int .i64 E) rfl (by kernel_rfl) (by kernel_rfl) (by kernel_rfl) (fun _ _ _ h => hPK _ _ _ _ _ h) (Or.inl ⟨by rfl, fun w hS => by go_simp⟩) hHeld ?_
            simp only [Act.put, List.getElem_toArray, List.getElem_cons_zero, List.getElem_cons_succ, List.setIfInBounds_toArray, List.set_cons_zero, List.set_cons_succ]
            refine wpAnyH_done (by kernel_rfl) ?_ _
            exact hKK gS _ ⟨bE, hHeld⟩
          · refine step_alv _ rfl _ rfl _ zero_said ?_
            intro z2 bS a2
            have hG := hHeld.size
            obtain ⟨gS, hgS⟩ : ∃ gS, gS = z0.heap.size := ⟨_, rfl⟩
            rw [← hgS] at bS hG ⊢
            clear hgS
            refine hK.out _ _ (grow_trans hHeld a2) (fun hHeld => ?_)
            clear hK KQ
            refine wpAnyH_ready (rs := [6]) (by kernel_rfl) (by simp) ?_
            refine AllReadyH.cons rfl (fun KQ hK => ?_) AllReadyH.nil
            go_simp
            refine (HRr1.out _ (KV.out _ hHeld)).mono ?_
            rintro e y1 ⟨rfl, a1⟩
            replace bS := bS.grow a1
            refine hK.out _ _ (grow_trans hHeld a1) (fun hHeld => ?_)
            clear hK KQ
            refine wpAnyH_take (i := 7) (v := .tuple #[.agg SD, .int .i64 E]) rfl (by kernel_rfl) (by kernel_rfl) (by kernel_rfl) (fun _ _ _ h => hPK _ _ _ _ _ h) (Or.inl ⟨by rfl, fun w hS => by go_simp⟩) hHeld ?_
            simp only [Act.put, List.getElem_toArray, List.getElem_cons_zero, List.getElem_cons_succ, List.setIfInBounds_toArray, List.set_cons_zero, List.set_cons_succ]
            refine wpAnyH_take (i := 8) (v := .agg SD) rfl (by kernel_rfl) (by kernel_rfl) (by kernel_rfl) (fun _ _ _ h => hPK _ _ _ _ _ h) (Or.inl ⟨by rfl, fun w hS => by go_simp⟩) hHeld ?_
            simp only [Act.put, List.getElem_toArray, List.getElem_cons_zero, List.getElem_cons_succ, List.setIfInBounds_toArray, List.set_cons_zero, List.set_cons_succ]
            refine wpAnyH_take (i := 9) (v := .int .i64 E) rfl (by kernel_rfl) (by kernel_rfl) (by kernel_rfl) (fun _ _ _ h => hPK _ _ _ _ _ h) (Or.inl ⟨by rfl, fun w hS => by go_simp⟩) hHeld ?_
            simp only [Act.put, List.getElem_toArray, List.getElem_cons_zero, List.getElem_cons_succ, List.setIfInBounds_toArray, List.set_cons_zero, List.set_cons_succ]
            refine wpAnyH_ready (rs := [11]) (by kernel_rfl) (by simp) ?_
            refine AllReadyH.cons rfl (fun KQ hK => ?_) AllReadyH.nil
            refine step_sto _ rfl _ _ _ rfl gS _ SD rfl rfl bS HSD.out.1 HSD.out.2 HOn.out ?_
            intro z4 bE rE
            refine hK.out _ _ (below_row hHeld rE hG) (fun hHeld => ?_)
            clear hK KQ
            refine wpAnyH_take (i := 12) (v := .int .i64 E) rfl (by kernel_rfl) (by kernel_rfl) (by kernel_rfl) (fun _ _ _ h => hPK _ _ _ _ _ h) (Or.inl ⟨by rfl, fun w hS => by go_simp⟩) hHeld ?_
            simp only [Act.put, List.getElem_toArray, List.getElem_cons_zero, List.getElem_cons_succ, List.setIfInBounds_toArray, List.set_cons_zero, List.set_cons_succ]
            refine wpAnyH_done (by kernel_rfl) ?_ _
            exact hKK gS _ ⟨bE, hHeld⟩
        · intro g19 x19 hF
          obtain ⟨b19, hB19⟩ := hF
          replace KU := hidden (KU.out.step hB19)
          replace KV := hidden (KV.out.step hB19)
          replace KW := hidden (KW.out.step hB19)
          replace KL := hidden (KL.out.step hB19)
          replace K4 := hidden (K4.out.step hB19)
          replace K5 := hidden (K5.out.step hB19)
          replace KR := hidden (KR.out.step hB19)
          replace KS := hidden (KS.out.step hB19)
          replace K11 := hidden (K11.out.step hB19)
          replace K13 := hidden (K13.out.step hB19)
          replace KB := hidden (KB.out.step hB19)
          replace KZ := hidden (KZ.out.step hB19)
          replace K17 := hidden (K17.out.step hB19)
          have K19 := hidden b19.kp
          clear b19 hB19
          simp only [Act.put, List.setIfInBounds_toArray, List.set_cons_zero, List.set_cons_succ]
          go_wp2
          refine wp_region_held_drew (S := fun w' => Below x19.heap.size x19 w') (by kernel_rfl) (below_drewN (Below.refl _ _) 1) (fun hHeld => ?_)
          refine wpAnyH_take (i := 0) (v := .agg SD) rfl (by kernel_rfl) (by kernel_rfl) (by kernel_rfl) (fun _ _ _ h => h) (yieldsIf_load_mid rfl 34 (.tmp 17) rfl g17 (0) rfl SD.toList _ (fun w hS => (K17.out _ hS).range) HUS.out rfl (by rw [Array.length_toList]; exact HSD.out.1)) hHeld ?_
          simp only [Act.put, List.getElem_toArray, List.getElem_cons_zero, List.setIfInBounds_toArray, List.set_cons_zero, List.set_cons_succ]
          refine wpAnyH_take (i := 1) (v := .agg SD) rfl (by kernel_rfl) (by kernel_rfl) (by kernel_rfl) (fun _ _ _ h => h) (yieldsIf_load_mid rfl 34 (.tmp 19) rfl g19 (0) rfl SD.toList _ (fun w hS => (K19.out _ hS).range) HUS.out rfl (by rw [Array.length_toList]; exact HSD.out.1)) hHeld ?_
          simp only [Act.put, List.getElem_toArray, List.getElem_cons_zero, List.getElem_cons_succ, List.setIfInBounds_toArray, List.set_cons_zero, List.set_cons_succ]
          refine wpAnyH_take (i := 2) (v := .bool false) rfl (by kernel_rfl) (by kernel_rfl) (by kernel_rfl) (fun _ _ _ h => h) (Or.inl ⟨by rfl, fun w hS => by go_simp⟩) hHeld ?_
          simp only [Act.put, List.getElem_toArray, List.getElem_cons_zero, List.getElem_cons_succ, List.setIfInBounds_toArray, List.set_cons_zero, List.set_cons_succ]
          refine wpAnyH_take (i := 3) (v := .bool false) rfl (by kernel_rfl) (by kernel_rfl) (by kernel_rfl) (fun _ _ _ h => h) (Or.inl ⟨by rfl, fun w hS => by go_simp⟩) hHeld ?_
          simp only [Act.put, List.getElem_toArray, List.getElem_cons_zero, List.getElem_cons_succ, List.setIfInBounds_toArray, List.set_cons_zero, List.set_cons_succ]
          refine wpAnyH_take (i := 4) (v := .int .i64 E) rfl (by kernel_rfl) (by kernel_rfl) (by kernel_rfl) (fun _ _ _ h => h) (Or.inl ⟨by rfl, fun w hS => by go_simp⟩) hHeld ?_
          simp only [Act.put, List.getElem_toArray, List.getElem_cons_zero, List.getElem_cons_succ, List.setIfInBounds_toArray, List.set_cons_zero, List.set_cons_succ]
          refine wpAnyH_take (i := 5) (v := .int .i64 E) rfl (by kernel_rfl) (by kernel_rfl) (by kernel_rfl) (fun _ _ _ h => h) (Or.inl ⟨by rfl, fun w hS => by go_simp⟩) hHeld ?_
          simp only [Act.put, List.getElem_toArray, List.getElem_cons_zero, List.getElem_cons_succ, List.setIfInBounds_toArray, List.set_cons_zero, List.set_cons_succ]
          refine wpAnyH_take (i := 6) (v := .bool false) rfl (by kernel_rfl) (by kernel_rfl) (by kernel_rfl) (fun _ _ _ h => h) (Or.inl ⟨by rfl, fun w hS => by go_simp⟩) hHeld ?_
          simp only [Act.put, List.getElem_toArray, List.getElem_cons_zero, List.getElem_cons_succ, List.setIfInBounds_toArray, List.set_cons_zero, List.set_cons_succ]
          refine wpAnyH_take (i := 7) (v := .bool false) rfl (by kernel_rfl) (by kernel_rfl) (by kernel_rfl) (fun _ _ _ h => h) (Or.inl ⟨by rfl, fun w hS => by go_simp⟩) hHeld ?_
          simp only [Act.put, List.getElem_toArray, List.getElem_cons_zero, List.getElem_cons_succ, List.setIfInBounds_toArray, List.set_cons_zero, List.set_cons_succ]
          refine wpAnyH_take (i := 8) (v := .bool false) rfl (by kernel_rfl) (by kernel_rfl) (by kernel_rfl) (fun _ _ _ h => h) (Or.inl ⟨by rfl, fun w hS => by go_simp⟩) hHeld ?_
          simp only [Act.put, List.getElem_toArray, List.getElem_cons_zero, List.getElem_cons_succ, List.setIfInBounds_toArray, List.set_cons_zero, List.set_cons_succ]
          refine wpAnyH_take (i := 9) (v := .slice (some ⟨gL, 0, none⟩) 2 2) rfl (by kernel_rfl) (by kernel_rfl) (by kernel_rfl) (fun _ _ _ h => h) (Or.inl ⟨by rfl, fun w hS => by go_simp⟩) hHeld ?_
          simp only [Act.put, List.getElem_toArray, List.getElem_cons_zero, List.getElem_cons_succ, List.setIfInBounds_toArray, List.set_cons_zero, List.set_cons_succ]
          refine wpAnyH_take (i := 10) (v := .int .i64 (i : Int)) rfl (by kernel_rfl) (by kernel_rfl) (by kernel_rfl) (fun _ _ _ h => h) (Or.inl ⟨by rfl, fun w hS => by go_simp⟩) hHeld ?_
          simp only [Act.put, List.getElem_toArray, List.getElem_cons_zero, List.getElem_cons_succ, List.setIfInBounds_toArray, List.set_cons_zero, List.set_cons_succ]
          refine wpAnyH_take (i := 11) (v := .pointer (some ⟨gL, i * 32, none⟩)) rfl (by kernel_rfl) (by kernel_rfl) (by kernel_rfl) (fun _ _ _ h => h) (Or.inl ⟨by rfl, fun w hS => by go_simp⟩) hHeld ?_
          simp only [Act.put, List.getElem_toArray, List.getElem_cons_zero, List.getElem_cons_succ, List.setIfInBounds_toArray, List.set_cons_zero, List.set_cons_succ]
          refine wpAnyH_take (i := 12) (v := .agg (B R)) rfl (by kernel_rfl) (by kernel_rfl) (by kernel_rfl) (fun _ _ _ h => h) (yieldsIf_load_mid rfl 23 (.tmp 85) rfl gL (i * 32) rfl (B R).toList _ (fun w hS => HRG.out _ (KB.out _ hS)) Tryd.underlying23 rfl HLR.out) hHeld ?_
          simp only [Act.put, List.getElem_toArray, List.getElem_cons_zero, List.getElem_cons_succ, List.setIfInBounds_toArray, List.set_cons_zero, List.set_cons_succ]
          refine wpAnyH_take (i := 13) (v := .agg (B key)) rfl (by kernel_rfl) (by kernel_rfl) (by kernel_rfl) (fun _ _ _ h => h) (yieldsIf_load_mid rfl 24 (.tmp 5) rfl g5 (0) rfl (B key).toList _ (fun w hS => (K5.out _ hS).range) Tryd.underlying24 rfl HLk.out) hHeld ?_
          simp only [Act.put, List.getElem_toArray, List.getElem_cons_zero, List.getElem_cons_succ, List.setIfInBounds_toArray, List.set_cons_zero, List.set_cons_succ]
          refine wpAnyH_take (i := 14) (v := .slice (some ⟨gm, 0, none⟩) m m5) rfl (by kernel_rfl) (by kernel_rfl) (by kernel_rfl) (fun _ _ _ h => h) (Or.inl ⟨by rfl, fun w hS => by go_simp⟩) hHeld ?_
          simp only [Act.put, List.getElem_toArray, List.getElem_cons_zero, List.getElem_cons_succ, List.setIfInBounds_toArray, List.set_cons_zero, List.set_cons_succ]
          refine wpAnyH_take (i := 15) (v := .slice (some ⟨gl, 0, none⟩) l l5) rfl (by kernel_rfl) (by kernel_rfl) (by kernel_rfl) (fun _ _ _ h => h) (Or.inl ⟨by rfl, fun w hS => by go_simp⟩) hHeld ?_
          simp only [Act.put, List.getElem_toArray, List.getElem_cons_zero, List.getElem_cons_succ, List.setIfInBounds_toArray, List.set_cons_zero, List.set_cons_succ]
          refine wpAnyH_take (i := 17) (v := .slice (some ⟨gL, 0, none⟩) 2 2) rfl (by kernel_rfl) (by kernel_rfl) (by kernel_rfl) (fun _ _ _ h => h) (Or.inl ⟨by rfl, fun w hS => by go_simp⟩) hHeld ?_
          simp only [Act.put, List.getElem_toArray, List.getElem_cons_zero, List.getElem_cons_succ, List.setIfInBounds_toArray, List.set_cons_zero, List.set_cons_succ]
          refine wpAnyH_take (i := 18) (v := .int .i64 (i : Int)) rfl (by kernel_rfl) (by kernel_rfl) (by kernel_rfl) (fun _ _ _ h => h) (Or.inl ⟨by rfl, fun w hS => by go_simp⟩) hHeld ?_
          simp only [Act.put, List.getElem_toArray, List.getElem_cons_zero, List.getElem_cons_succ, List.setIfInBounds_toArray, List.set_cons_zero, List.set_cons_succ]
          refine wpAnyH_take (i := 19) (v := .pointer (some ⟨gL, i * 32, none⟩)) rfl (by kernel_rfl) (by kernel_rfl) (by kernel_rfl) (fun _ _ _ h => h) (Or.inl ⟨by rfl, fun w hS => by go_simp⟩) hHeld ?_
          simp only [Act.put, List.getElem_toArray, List.getElem_cons_zero, List.getElem_cons_succ, List.setIfInBounds_toArray, List.set_cons_zero, List.set_cons_succ]
          refine wpAnyH_take (i := 20) (v := .agg (B R)) rfl (by kernel_rfl) (by kernel_rfl) (by kernel_rfl) (fun _ _ _ h => h) (yieldsIf_load_mid rfl 23 (.tmp 93) rfl gL (i * 32) rfl (B R).toList _ (fun w hS => HRG.out _ (KB.out _ hS)) Tryd.underlying23 rfl HLR.out) hHeld ?_
          simp only [Act.put, List.getElem_toArray, List.getElem_cons_zero, List.getElem_cons_succ, List.setIfInBounds_toArray, List.set_cons_zero, List.set_cons_succ]
          refine wpAnyH_take (i := 21) (v := .agg (B key)) rfl (by kernel_rfl) (by kernel_rfl) (by kernel_rfl) (fun _ _ _ h => h) (yieldsIf_load_mid rfl 24 (.tmp 5) rfl g5 (0) rfl (B key).toList _ (fun w hS => (K5.out _ hS).range) Tryd.underlying24 rfl HLk.out) hHeld ?_
          simp only [Act.put, List.getElem_toArray, List.getElem_cons_zero, List.getElem_cons_succ, List.setIfInBounds_toArray, List.set_cons_zero, List.set_cons_succ]
          refine wpAnyH_take (i := 22) (v := .slice ua m uc) rfl (by kernel_rfl) (by kernel_rfl) (by kernel_rfl) (fun _ _ _ h => h) (Or.inl ⟨by rfl, fun w hS => by go_simp⟩) hHeld ?_
          simp only [Act.put, List.getElem_toArray, List.getElem_cons_zero, List.getElem_cons_succ, List.setIfInBounds_toArray, List.set_cons_zero, List.set_cons_succ]
          refine wpAnyH_take (i := 23) (v := .slice va l vc) rfl (by kernel_rfl) (by kernel_rfl) (by kernel_rfl) (fun _ _ _ h => h) (Or.inl ⟨by rfl, fun w hS => by go_simp⟩) hHeld ?_
          simp only [Act.put, List.getElem_toArray, List.getElem_cons_zero, List.getElem_cons_succ, List.setIfInBounds_toArray, List.set_cons_zero, List.set_cons_succ]
          refine wpAnyH_ready (rs := [16]) (by kernel_rfl) (by simp) ?_
          refine AllReadyH.cons rfl (fun KQ hK => ?_) AllReadyH.nil
          go_simp
          refine (HPr1.out _ _ _ (HRY.out _ _ (KS.out _ hHeld)) (HRB.out _ _ (KR.out _ hHeld)) (KL.out _ hHeld)).mono ?_
          rintro e y1 ⟨rfl, a1⟩
          refine hK.out _ _ (grow_trans hHeld a1) (fun hHeld => ?_)
          clear hK KQ
          refine wpAnyH_ready (rs := [24]) (by kernel_rfl) (by simp) ?_
          refine AllReadyH.cons rfl (fun KQ hK => ?_) AllReadyH.nil
          go_simp
          refine (HPq1.out _ (KU.out _ hHeld) (KV.out _ hHeld)).mono ?_
          rintro e y2 ⟨rfl, a2⟩
          refine hK.out _ _ (grow_trans hHeld a2) (fun hHeld => ?_)
          clear hK KQ
          refine wpAnyH_take (i := 25) (v := .bool false) rfl (by kernel_rfl) (by kernel_rfl) (by kernel_rfl) (fun _ _ _ h => h) (Or.inl ⟨by rfl, fun w hS => by go_simp⟩) hHeld ?_
          simp only [Act.put, List.getElem_toArray, List.getElem_cons_zero, List.getElem_cons_succ, List.setIfInBounds_toArray, List.set_cons_zero, List.set_cons_succ]
          refine wpAnyH_take (i := 26) (v := .bool false) rfl (by kernel_rfl) (by kernel_rfl) (by kernel_rfl) (fun _ _ _ h => h) (Or.inl ⟨by rfl, fun w hS => by go_simp⟩) hHeld ?_
          simp only [Act.put, List.getElem_toArray, List.getElem_cons_zero, List.getElem_cons_succ, List.setIfInBounds_toArray, List.set_cons_zero, List.set_cons_succ]
          refine wpAnyH_take (i := 27) (v := .bool false) rfl (by kernel_rfl) (by kernel_rfl) (by kernel_rfl) (fun _ _ _ h => h) (Or.inl ⟨by rfl, fun w hS => by go_simp⟩) hHeld ?_
          simp only [Act.put, List.getElem_toArray, List.getElem_cons_zero, List.getElem_cons_succ, List.setIfInBounds_toArray, List.set_cons_zero, List.set_cons_succ]
          refine wpAnyH_take (i := 28) (v := .slice (some ⟨gL, 0, none⟩) 2 2) rfl (by kernel_rfl) (by kernel_rfl) (by kernel_rfl) (fun _ _ _ h => h) (Or.inl ⟨by rfl, fun w hS => by go_simp⟩) hHeld ?_
          simp only [Act.put, List.getElem_toArray, List.getElem_cons_zero, List.getElem_cons_succ, List.setIfInBounds_toArray, List.set_cons_zero, List.set_cons_succ]
          refine wpAnyH_take (i := 29) (v := .int .i64 (i : Int)) rfl (by kernel_rfl) (by kernel_rfl) (by kernel_rfl) (fun _ _ _ h => h) (Or.inl ⟨by rfl, fun w hS => by go_simp⟩) hHeld ?_
          simp only [Act.put, List.getElem_toArray, List.getElem_cons_zero, List.getElem_cons_succ, List.setIfInBounds_toArray, List.set_cons_zero, List.set_cons_succ]
          refine wpAnyH_take (i := 30) (v := .pointer (some ⟨gL, i * 32, none⟩)) rfl (by kernel_rfl) (by kernel_rfl) (by kernel_rfl) (fun _ _ _ h => h) (Or.inl ⟨by rfl, fun w hS => by go_simp⟩) hHeld ?_
          simp only [Act.put, List.getElem_toArray, List.getElem_cons_zero, List.getElem_cons_succ, List.setIfInBounds_toArray, List.set_cons_zero, List.set_cons_succ]
          refine wpAnyH_take (i := 31) (v := .agg (B R)) rfl (by kernel_rfl) (by kernel_rfl) (by kernel_rfl) (fun _ _ _ h => h) (yieldsIf_load_mid rfl 23 (.tmp 104) rfl gL (i * 32) rfl (B R).toList _ (fun w hS => HRG.out _ (KB.out _ hS)) Tryd.underlying23 rfl HLR.out) hHeld ?_
          simp only [Act.put, List.getElem_toArray, List.getElem_cons_zero, List.getElem_cons_succ, List.setIfInBounds_toArray, List.set_cons_zero, List.set_cons_succ]
          refine wpAnyH_take (i := 32) (v := .agg (B key)) rfl (by kernel_rfl) (by kernel_rfl) (by kernel_rfl) (fun _ _ _ h => h) (yieldsIf_load_mid rfl 24 (.tmp 5) rfl g5 (0) rfl (B key).toList _ (fun w hS => (K5.out _ hS).range) Tryd.underlying24 rfl HLk.out) hHeld ?_
          simp only [Act.put, List.getElem_toArray, List.getElem_cons_zero, List.getElem_cons_succ, List.setIfInBounds_toArray, List.set_cons_zero, List.set_cons_succ]
          refine wpAnyH_take (i := 33) (v := .slice (some ⟨gl, 0, none⟩) l l5) rfl (by kernel_rfl) (by kernel_rfl) (by kernel_rfl) (fun _ _ _ h => h) (Or.inl ⟨by rfl, fun w hS => by go_simp⟩) hHeld ?_
          simp only [Act.put, List.getElem_toArray, List.getElem_cons_zero, List.getElem_cons_succ, List.setIfInBounds_toArray, List.set_cons_zero, List.set_cons_succ]
          refine wpAnyH_take (i := 35) (v := .slice (some ⟨gL, 0, none⟩) 2 2) rfl (by kernel_rfl) (by kernel_rfl) (by kernel_rfl) (fun _ _ _ h => h) (Or.inl ⟨by rfl, fun w hS => by go_simp⟩) hHeld ?_
          simp only [Act.put, List.getElem_toArray, List.getElem_cons_zero, List.getElem_cons_succ, List.setIfInBounds_toArray, List.set_cons_zero, List.set_cons_succ]
          refine wpAnyH_take (i := 36) (v := .int .i64 (i : Int)) rfl (by kernel_rfl) (by kernel_rfl) (by kernel_rfl) (fun _ _ _ h => h) (Or.inl ⟨by rfl, fun w hS => by go_simp⟩) hHeld ?_
          simp only [Act.put, List.getElem_toArray, List.getElem_cons_zero, List.getElem_cons_succ, List.setIfInBounds_toArray, List.set_cons_zero, List.set_cons_succ]
          refine wpAnyH_take (i := 37) (v := .pointer (some ⟨gL, i * 32, none⟩)) rfl (by kernel_rfl) (by kernel_rfl) (by kernel_rfl) (fun _ _ _ h => h) (Or.inl ⟨by rfl, fun w hS => by go_simp⟩) hHeld ?_
          simp only [Act.put, List.getElem_toArray, List.getElem_cons_zero, List.getElem_cons_succ, List.setIfInBounds_toArray, List.set_cons_zero, List.set_cons_succ]
          refine wpAnyH_take (i := 38) (v := .agg (B R)) rfl (by kernel_rfl) (by kernel_rfl) (by kernel_rfl) (fun _ _ _ h => h) (yieldsIf_load_mid rfl 23 (.tmp 111) rfl gL (i * 32) rfl (B R).toList _ (fun w hS => HRG.out _ (KB.out _ hS)) Tryd.underlying23 rfl HLR.out) hHeld ?_
          simp only [Act.put, List.getElem_toArray, List.getElem_cons_zero, List.getElem_cons_succ, List.setIfInBounds_toArray, List.set_cons_zero, List.set_cons_succ]
          refine wpAnyH_take (i := 39) (v := .agg (B key)) rfl (by kernel_rfl) (by kernel_rfl) (by kernel_rfl) (fun _ _ _ h => h) (yieldsIf_load_mid rfl 24 (.tmp 5) rfl g5 (0) rfl (B key).toList _ (fun w hS => (K5.out _ hS).range) Tryd.underlying24 rfl HLk.out) hHeld ?_
          simp only [Act.put, List.getElem_toArray, List.getElem_cons_zero, List.getElem_cons_succ, List.setIfInBounds_toArray, List.set_cons_zero, List.set_cons_succ]
          refine wpAnyH_take (i := 40) (v := .slice va l vc) rfl (by kernel_rfl) (by kernel_rfl) (by kernel_rfl) (fun _ _ _ h => h) (Or.inl ⟨by rfl, fun w hS => by go_simp⟩) hHeld ?_
          simp only [Act.put, List.getElem_toArray, List.getElem_cons_zero, List.getElem_cons_succ, List.setIfInBounds_toArray, List.set_cons_zero, List.set_cons_succ]
          refine wpAnyH_ready (rs := [34]) (by kernel_rfl) (by simp) ?_
          refine AllReadyH.cons rfl (fun KQ hK => ?_) AllReadyH.nil
          go_simp
          refine (HAb1.out _ _ (HRB.out _ _ (KR.out _ hHeld)) (KL.out _ hHeld)).mono ?_
          rintro e y3 ⟨rfl, a3⟩
          refine hK.out _ _ (grow_trans hHeld a3) (fun hHeld => ?_)
          clear hK KQ
          refine wpAnyH_ready (rs := [41]) (by kernel_rfl) (by simp) ?_
          refine AllReadyH.cons rfl (fun KQ hK => ?_) AllReadyH.nil
          go_simp
          refine (HAr1.out _ (KV.out _ hHeld)).mono ?_
          rintro e y4 ⟨rfl, a4⟩
          refine hK.out _ _ (grow_trans hHeld a4) (fun hHeld => ?_)
          clear hK KQ
          refine wpAnyH_take (i := 42) (v := .bool false) rfl (by kernel_rfl) (by kernel_rfl) (by kernel_rfl) (fun _ _ _ h => h) (Or.inl ⟨by rfl, fun w hS => by go_simp⟩) hHeld ?_
          simp only [Act.put, List.getElem_toArray, List.getElem_cons_zero, List.getElem_cons_succ, List.setIfInBounds_toArray, List.set_cons_zero, List.set_cons_succ]
          refine wpAnyH_take (i := 43) (v := .bool false) rfl (by kernel_rfl) (by kernel_rfl) (by kernel_rfl) (fun _ _ _ h => h) (Or.inl ⟨by rfl, fun w hS => by go_simp⟩) hHeld ?_
          simp only [Act.put, List.getElem_toArray, List.getElem_cons_zero, List.getElem_cons_succ, List.setIfInBounds_toArray, List.set_cons_zero, List.set_cons_succ]
          refine wpAnyH_done (by kernel_rfl) ?_ _
          go_wp2
          exact ⟨⟨i + 1, by omega, by go_num, (KZ.out.step hHeld).now⟩, by simp [intOf]; omega⟩
    · have z1 : ¬ (i : Int) < (2 : Int) := by omega
      go_wp2_with (first
        | (go_at_call 13; have mk := mk_one; clear mk; refine (HKY.out _ _ KS.out.now KU.out.now).mono ?_; rintro e y2 ⟨rfl, a2⟩; replace KW := hidden (KW.out.step a2))
        | (go_at_call 13; refine (HKP.out _ _ KR.out.now KV.out.now).mono ?_; rintro e y1 ⟨rfl, a1⟩; replace KW := hidden (KW.out.step a1); replace KS := hidden (KS.out.step a1); replace KU := hidden (KU.out.step a1); have mk_one : Hid True := trivial))
      go_ret
      exact ⟨rfl, KW.out.now⟩

end Go.Proofs.YtpihigcnoifcfaaDoor

/- What the two tables of sha hold when a statement's call begins, as the rows list it; and the start that the program's own text lays. -/
namespace Go.Proofs.YtpihigcnoifcfaaDoor
set_option maxRecDepth 20000
open Go.ChangeShapes Go.WideShapes Go.ChangeAt Go.WideMaps Go.WideElems Go.RowKit

abbrev laid2 : List (String × DataW Unit) := Rows.verifyReadsRow.laid
abbrev nameOf (i : Nat) : String := (laid2.map (·.1)).getD i Rows.verifyReadsRow.func

theorem gFirst : Tryd.prog.globalNamed (nameOf 0) = some 0 := by kernel_rfl
theorem gRounds : Tryd.prog.globalNamed (nameOf 1) = some 1 := by kernel_rfl
theorem tFirst : (Tryd.prog.globals[0]?).map (·.type) = some 113 := by kernel_rfl
theorem tRounds : (Tryd.prog.globals[1]?).map (·.type) = some 122 := by kernel_rfl

/-- The door's own heap meets the condition. -/
theorem door_met (os : Os) (args : Array Value) : laidMetH Tryd.prog laid2 ((World.doorLaid Tryd.prog 400 os).forCall (fun _ _ => 0) ⟨#[], args, []⟩).memory :=
  laidMetH_of_parts3 (fuel := 8) (laidMet_of_run' 8 (by kernel_rfl) (by kernel_rfl)) (by kernel_rfl) (by kernel_rfl)

theorem tab_first : (Rows.laid_rootcellar_sha_first : DataW Unit) = Lib.tabData .u32 hs := rfl
theorem tab_rounds : (Rows.laid_rootcellar_sha_rounds : DataW Unit) = Lib.tabData .u32 ks := rfl
theorem cells_w8 : Tryd.prog.cellsOf 113 = 8 := by kernel_rfl
theorem cells_w64 : Tryd.prog.cellsOf 122 = 64 := by kernel_rfl
theorem cells_w : Tryd.prog.cellsOf 112 = 1 := by kernel_rfl

/-- What the condition gives the walks. -/
theorem of_laid {W : World} (h : laidMetH Tryd.prog laid2 W) : Laid W := by
  rw [MakeChecks.laidMetH_plain _ _ _ (by kernel_rfl)] at h
  obtain ⟨ps, ⟨g0, t0, cs0, f0, p0, q0, hg0, ht0, hv0, hd0, ⟨g1, t1, cs1, f1, p1, q1, hg1, ht1, hv1, hd1, _, _⟩, _⟩, _, _⟩ := h
  obtain rfl := Option.some.inj (gFirst.symm.trans hg0)
  obtain rfl := Option.some.inj (gRounds.symm.trans hg1)
  obtain rfl := Option.some.inj (tFirst.symm.trans ht0)
  obtain rfl := Option.some.inj (tRounds.symm.trans ht1)
  rw [tab_first] at hd0
  rw [tab_rounds] at hd1
  have e0 := Lib.cells_of_tab Tryd.underlying113 Tryd.underlying112 cells_w cells_w8 hd0
  have e1 := Lib.cells_of_tab Tryd.underlying122 Tryd.underlying112 cells_w cells_w64 hd1
  have c1 : ∀ i, i < 64 → W.cell? ⟨1, i, none⟩ = some (.int .u32 (ks.getD i 0)) := by
    intro i hi
    rw [World.var?_cell hg1 hv1 i, ← Array.getElem?_toList, e1, List.getElem?_map, List.getElem?_eq_getElem (show i < ks.length from hi)]
    simp [List.getD, show i < ks.length from hi]
  have c0 : ∀ i, i < 8 → W.cell? ⟨0, i, none⟩ = some (.int .u32 (hs.getD i 0)) := by
    intro i hi
    rw [World.var?_cell hg0 hv0 i, ← Array.getElem?_toList, e0, List.getElem?_map, List.getElem?_eq_getElem (show i < hs.length from hi)]
    simp [List.getD, show i < hs.length from hi]
  exact ⟨block_lt_of_cell (c1 0 (by omega)), c1, c0⟩

end Go.Proofs.YtpihigcnoifcfaaDoor

/- What every statement's proof asks of the program as a whole. -/
namespace Go.Proofs.YtpihigcnoifcfaaDoor
set_option maxRecDepth 20000
open Go.ChangeShapes Go.WideShapes Go.ChangeAt Go.RowKit

theorem ownK : ownKnob Tryd.prog.godebug = none := by kernel_rfl
theorem laidOut : laidOutB Tryd.prog = true := by kernel_rfl

theorem okWide_st {t : TypeId} {fs : Array Field} {W : World} {base : Nat} {v : Value} (ht : Tryd.prog.underlying t = some (.struct fs)) (h : Value.okWide Tryd.prog W .any base t v) : ∃ cs, v = .agg cs := by
  unfold Value.okWide at h
  cases v <;> simp_all

end Go.Proofs.YtpihigcnoifcfaaDoor
