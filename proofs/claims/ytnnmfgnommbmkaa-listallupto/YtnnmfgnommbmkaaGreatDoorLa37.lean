/- put.raise, as a contract. -/
import Derived.Test.YtnnmfgnommbmkaaGreatDoorLa01
import Derived.Test.YtnnmfgnommbmkaaGreatDoorLa36
import Derived.Test.YtnnmfgnommbmkaaGreatDoorLa18
import Derived.Test.YtnnmfgnommbmkaaGreatDoorLa19
import Derived.Test.YtnnmfgnommbmkaaGreatDoorLa16
import Derived.Deep.RegionHeld2
namespace Go.Proofs.YtnnmfgnommbmkaaGreatDoor
set_option maxRecDepth 20000
open Go.RowKit

section
variable {w w1 w2 : World} {S : List Nat} {g gs room : Nat} {cs : List (Nat × Ce)} {fr : List Nat}
theorem Hs.rebase (h : Hs w S w g gs room cs fr) (hb : Below w.heap.size w w1) : Hs w1 S w1 g gs room cs fr := by
  obtain ⟨⟨vp, vf, s, m, n⟩, W⟩ := h
  refine ⟨⟨vp, vf, s.grow hb, Mod.refl _ _, fun k hk => ?_⟩, W⟩
  rcases n k hk with q | q
  · exact .inl q
  · have := s.lts k hk
    omega
theorem Hs.back (hb : Below w.heap.size w w1) (h : Hs w1 S w2 g gs room cs fr) : Hs w S w2 g gs room cs fr := by
  obtain ⟨⟨vp, vf, s, m, n⟩, W⟩ := h
  refine ⟨⟨vp, vf, s, (Mod.of_below hb S).trans' m, fun k hk => ?_⟩, W⟩
  rcases n k hk with q | q
  · exact .inl q
  · exact .inr (Nat.le_trans hb.size q)
end

def RaPost (w : World) (S : List Nat) (g gs room : Nat) (cs0 cs1 : List (Nat × Ce)) (fr : List Nat) (E : List Ent) (K bs : List Int) (ss : List Nat) (e : Ending) (w' : World) : Prop :=
  ∃ (top : Nat) (v' : Value) (cs2 : List (Nat × Ce)) (fr2 : List Nat), e = .returned (.int .i64 (top : Int)) ∧ CeOk (lfC (lfD K (vaD bs)) K v' bs) ∧ Rz K ss (tkC cs1 fr (1, lfC (lfD K (vaD bs)) K v' bs)) fr.dropLast (tkH cs1 fr) cs2 fr2 top ∧ RzI cs0 E K bs ss 0 cs2 top ∧ Hs w S w' g gs room cs2 fr2

set_option maxHeartbeats 4000000 in
theorem raise_any {w : World} {S : List Nat} {g gs room : Nat} {cs0 cs1 : List (Nat × Ce)} {fr : List Nat} (h : Hs w S w g gs room cs1 fr) (hS : ∀ k ∈ S, k < w.heap.size) (W0 : Wf cs0 []) {E : List Ent} {K bs : List Int} {ss : List Nat} (hK : Key K) (b : BesOk cs0 E K ss) (hm : HmOk cs0 ss cs1) (hroom : noc cs0 + 258 ≤ room) (a : Option Addr) (n c : Nat) (hn : n = ss.length) (hI : Kq S w (fun w' => Ints9 w' a ss)) (hL : Kq S w Laid) (v : Value) (hR : Kq S w (fun w' => Reads w' v bs)) (hl : bs.length ≤ 1024) :
    Calls Tryz.prog 42 #[.pointer (some ⟨g, 0, none⟩), .agg (B K), v, .slice a n c] w (RaPost w S g gs room cs0 cs1 fr E K bs ss) := by
  have h256 : n ≤ 256 := by rw [hn]; exact b.len
  have HPS : Hid ((Tryz.prog.info? 32).map (·.size) = some (B K).size) := by show _ = _; rw [B_size, hK.1]; exact size_path
  have HPL := hidden (pth_ln K hK.1)
  have hbs : Bytes bs := by obtain ⟨_, _, _, _, _, hb, _⟩ := hR.now; exact hb
  have hfu : ¬ Full room cs1 fr := h.free (by rw [hm.noc]; omega)
  have HLF : Hid (∀ w1, Below w.heap.size w w1 → Calls Tryz.prog 70 #[.pointer (some ⟨g, 0, none⟩), .agg (B K), v] w1 fun e w' => ∃ v', e = .returned (.tuple #[.int .i64 (tkH cs1 fr : Int), .int .i64 0]) ∧ CeOk (lfC (lfD K (vaD bs)) K v' bs) ∧ Hs w1 S w' g gs room (tkC cs1 fr (1, lfC (lfD K (vaD bs)) K v' bs)) fr.dropLast) := fun w1 hb => hs_leaf (h.rebase hb) K v bs ((hR.grow hb).now) hK ((hL.grow hb).now) hl hfu
  have HI0 : Hid (∀ v', CeOk (lfC (lfD K (vaD bs)) K v' bs) → RzI cs0 E K bs ss n (tkC cs1 fr (1, lfC (lfD K (vaD bs)) K v' bs)) (tkH cs1 fr)) := fun v' ok => by
    rw [hn]
    exact rzi_leaf W0 b hm h.frok v' hbs hl ok
  have HTK : Hid (ss.take n = ss) := List.take_of_length_le (by omega)
  have HRD : Hid (∀ w1, Below w.heap.size w w1 → ∀ wr (m : Nat) cs fr' (top : Nat), m < n → Hs w1 S wr g gs room cs fr' → RzI cs0 E K bs ss (m + 1) cs top → ∃ (lb s : Nat), a = some ⟨lb, 0, none⟩ ∧ wr.cell? ⟨lb, m, none⟩ = some (.int .i64 (s : Int)) ∧ (ss.take (m + 1) = ss.take m ++ [s]) ∧ (∀ z, Calls Tryz.prog 71 #[.agg (B K), .int .i64 (m : Int), .int .i64 (top : Int), .int .i64 (s : Int)] z fun e z' => e = .returned (.tuple #[.int .i64 (tl K m top s : Int), .int .i64 (tr K m top s : Int)]) ∧ Below z.heap.size z z') ∧
      ∀ z, Below wr.heap.size wr z → Calls Tryz.prog 72 #[.pointer (some ⟨g, 0, none⟩), .int .i64 (m : Int), .int .i64 (tl K m top s : Int), .int .i64 (tr K m top s : Int)] z fun e z' => ∃ cs', e = .returned (.tuple #[.int .i64 (tkH cs fr' : Int), .int .i64 0]) ∧ InnR cs fr' m (tl K m top s) (tr K m top s) cs' ∧ RzI cs0 E K bs ss m cs' (tkH cs fr') ∧ Hs w1 S z' g gs room cs' fr'.dropLast) := fun w1 hb wr m cs fr' top hmn hh hi => by
    obtain ⟨lb, e1, e2⟩ := hh.kq (hI.grow hb) m (by omega)
    have hml : m < ss.length := by omega
    have hm256 : m < 256 := by omega
    refine ⟨lb, ss.getD m 0, e1, e2, ?_, fun z => ?_, fun z hz => ?_⟩
    · rw [List.take_add_one, List.getElem?_eq_getElem hml, List.getD_eq_getElem?_getD, List.getElem?_eq_getElem hml]
      rfl
    · have := turned9_any z K hK m hm256 (top : Int) (ss.getD m 0 : Int)
      unfold tl tr
      by_cases q : kb K m = 1
      · simp only [q, if_true] at this ⊢
        exact this
      · simp only [q, if_false] at this ⊢
        exact this
    · obtain ⟨ml, mr, u, hu, hf, hst⟩ := rzi_fit b hml hi
      have hz2 := hh.grow hz
      refine (hs_inner hz2 m _ _ hm256 ml mr u hu hf (hz2.kq (hL.grow hb)) (hz2.free (by have := hi.noc; omega))).mono ?_
      rintro e z' ⟨cs', hin, rfl, hs'⟩
      exact ⟨cs', rfl, hin, hst fr' cs' hz2.frok hin hs'.2, hs'⟩
  have HPost : Hid (∀ w1, Below w.heap.size w w1 → ∀ (v' : Value) wr (top : Nat) cs2 fr2, CeOk (lfC (lfD K (vaD bs)) K v' bs) → Rz K ss (tkC cs1 fr (1, lfC (lfD K (vaD bs)) K v' bs)) fr.dropLast (tkH cs1 fr) cs2 fr2 top → RzI cs0 E K bs ss 0 cs2 top → Hs w1 S wr g gs room cs2 fr2 → RaPost w S g gs room cs0 cs1 fr E K bs ss (.returned (.int .i64 (top : Int))) wr) := fun w1 hb v' wr top cs2 fr2 h1 h2 h3 h4 => ⟨top, v', cs2, fr2, rfl, h1, h2, h3, Hs.back hb h4⟩
  generalize RaPost w S g gs room cs0 cs1 fr E K bs ss = P at HPost ⊢
  have HS := hidden hS
  have HKE : Hid (Key K) := hK
  have HM := hidden h256
  have hwn : wrap64 ((n : Int) - 1) = (n : Int) - 1 := Go.IntWalk.wrap64_in _ (by omega)
  have HNS := hidden hn
  have HV : Hid (∃ va vn vc, v = .slice va vn vc) := by obtain ⟨va, vc, e, _⟩ := hR.now; exact ⟨va, _, vc, e⟩
  obtain ⟨va, vn, vc, hve⟩ := HV.out
  subst hve
  clear h hS W0 b hm hroom hn hI hL hR hl h256 hbs hfu hK HV
  go_enter Tryz.func42, Tryz.ntmps42
  go_wp2_with (first
    | ((with_reducible refine at_bxd 5 ?_); refine wpList_bx _ rfl _ _ rfl _ rfl ?_; intro w1 b5 hg5 hl5 B5 q5; have HB5 := hidden B5; have HQ5 := hidden q5; have HG5 := hidden hg5; clear hg5 hl5 B5 q5)
    | ((with_reducible refine at_ldd 16 5 ?_); refine wpList_ld _ rfl _ _ rfl b5 _ rfl HB5.out _ _ Tryz.underlying32 HPS.out ?_)
    | (go_at_call 70; refine (HLF.out _ HQ5.out).mono ?_; rintro e w2 ⟨v', rfl, ok, hs2⟩; have HOK := hidden ok; have HH2 := hidden hs2; clear ok hs2))
  have HBQ : Hid (Kq S w1 (fun w' => Blk w' b5 32 (B K))) := Kq.blk HB5.out (fun e => by have := HS.out _ e; have := HG5.out; omega)
  have HI1 := hidden (HI0.out v' HOK.out)
  obtain ⟨csL, hcsL⟩ : ∃ x, x = tkC cs1 fr (1, lfC (lfD K (vaD bs)) K v' bs) := ⟨_, rfl⟩
  rw [← hcsL] at HH2 HI1
  have HPo : Hid (∀ wr (top : Nat) cs2 fr2, Rz K ss csL fr.dropLast (tkH cs1 fr) cs2 fr2 top → RzI cs0 E K bs ss 0 cs2 top → Hs w1 S wr g gs room cs2 fr2 → P (.returned (.int .i64 (top : Int))) wr) := fun wr top cs2 fr2 a1 a2 a3 => HPost.out w1 HQ5.out v' wr top cs2 fr2 HOK.out (by rw [← hcsL]; exact a1) a2 a3
  have HRw := hidden (HRD.out w1 HQ5.out)
  generalize tkH cs1 fr = t0 at HH2 HI1 HPo ⊢
  generalize fr.dropLast = frL at HH2 HPo
  clear HPost HRD HI0 HLF HB5 HQ5 HG5 HS HOK hcsL
  go_loopw [9, 11] (fun tv dv wr => ∃ (m : Nat) (top : Nat) (cs : List (Nat × Ce)) (fr' : List Nat), m ≤ n ∧ tv = .int .i64 (top : Int) ∧ dv = .int .i64 ((m : Int) - 1) ∧ Hid (Hs w1 S wr g gs room cs fr') ∧ Hid (RzI cs0 E K bs ss m cs top) ∧ Hid (∀ cs2 fr2 t2, Rz K (ss.take m) cs fr' top cs2 fr2 t2 → Rz K ss csL frL t0 cs2 fr2 t2)) (fun _ dv _ => (intOf dv + 1).toNat)
  case atStart => exact ⟨n, t0, csL, frL, Nat.le_refl _, rfl, by first | rfl | (rw [hwn]) | go_num, HH2.out, HI1.out, fun _ _ _ q => by rw [HTK.out] at q; exact q⟩
  case round =>
    clear HH2 HI1 hwn
    obtain ⟨m, top, cs, fr', hmn, rfl, rfl, HH, HI, HZ⟩ := hrel
    cases m with
    | zero =>
      have e0 : ((0 : Nat) : Int) - 1 = -1 := rfl
      rw [e0]
      have HF : Hid (P (.returned (.int .i64 (top : Int))) wr) := HPo.out wr top cs fr' (HZ.out _ _ _ (by rw [List.take_zero]; exact Rz.done _ _ _)) HI.out HH.out
      go_wp2_with fail
      exact HF.out
    | succ m =>
      have e0 : ((m + 1 : Nat) : Int) - 1 = (m : Int) := by omega
      rw [e0]
      obtain ⟨lb, s, rfl, hcl, hts, htn, hin⟩ := HRw.out wr m cs fr' top (by omega) HH.out HI.out
      have HCL := hidden hcl
      have HIN := hidden hin
      have HBK := hidden (HH.out.kq HBQ.out)
      have HZ2 : Hid (∀ cs1 cs2 fr2 t2, InnR cs fr' m (tl K m top s) (tr K m top s) cs1 → Rz K (ss.take m) cs1 fr'.dropLast (tkH cs fr') cs2 fr2 t2 → Rz K ss csL frL t0 cs2 fr2 t2) := fun cs1 cs2 fr2 t2 a1 a2 => by
        have hlm : (ss.take m).length = m := by rw [List.length_take]; have := HNS.out; omega
        refine HZ.out cs2 fr2 t2 ?_
        rw [hts]
        refine Rz.step (cs1 := cs1) ?_ a2
        rw [hlm]
        exact a1
      have HTN := hidden htn
      generalize (tl K m top s : Int) = lz at HTN HIN
      generalize (tr K m top s : Int) = rz at HTN HIN
      obtain ⟨th, hth⟩ : ∃ th : Int, th = (tkH cs fr' : Int) := ⟨_, rfl⟩
      rw [← hth] at HIN
      have HTH := hidden hth
      generalize (s : Int) = sy at HCL HTN
      generalize (top : Int) = ty at HTN ⊢
      have k0 : (0 : Int) ≤ (m : Int) := by omega
      have k1 : (m : Int) < (n : Int) := by omega
      have hm256 : m < 256 := by have := HM.out; omega
      have hwm : wrap64 ((m : Int) - 1) = (m : Int) - 1 := Go.IntWalk.wrap64_in _ (by omega)
      have hcl := HCL.out
      clear hin htn hth HZ HH HI HPo HRw hts hmn e0
      go_wp2_with fail
      refine wp_region_held_drew (S := fun w' => Below wr.heap.size wr w') (by kernel_rfl) ((below_drewN (Below.refl _ _) 1)) (fun hHeld => ?_)
      refine tkg 0 (.agg (B K)) rfl (yieldsIf_load_mid rfl 32 (.tmp 5) rfl b5 0 rfl (B K).toList _ (fun w hS => (HBK.out.grow hS).range) Tryz.underlying32 rfl HPL.out) hHeld ?_
      simp only [Act.put, zq1, zq2, zq4, zq5, zq6]
      refine tkp 1 (.int .i64 (m : Int)) hHeld ?_
      simp only [Act.put, zq1, zq2, zq3, zq4, zq5, zq6]
      refine tkp 2 (.int .i64 ty) hHeld ?_
      simp only [Act.put, zq1, zq2, zq3, zq4, zq5, zq6]
      refine tkp 3 (.slice (some ⟨lb, 0, none⟩) n c) hHeld ?_
      simp only [Act.put, zq1, zq2, zq3, zq4, zq5, zq6]
      refine tkp 4 (.int .i64 (m : Int)) hHeld ?_
      simp only [Act.put, zq1, zq2, zq3, zq4, zq5, zq6]
      refine tkp 5 (.pointer (some ⟨lb, m, none⟩)) hHeld ?_
      simp only [Act.put, zq1, zq2, zq3, zq4, zq5, zq6]
      refine tkg 6 (.int .i64 sy) rfl (Or.inl ⟨by rfl, fun w hS => by (have q1 := below_cell hS HCL.out; go_simp)⟩) hHeld ?_
      simp only [Act.put, zq1, zq2, zq3, zq4, zq5, zq6]
      refine wpAnyH_ready (rs := [7]) (by kernel_rfl) (by simp) ?_
      refine AllReadyH.cons rfl (fun KQ hK => ?_) AllReadyH.nil
      go_simp
      refine (HTN.out _).mono ?_
      rintro e z1 ⟨rfl, a1⟩
      refine hK.out _ _ (grow_trans hHeld a1) (fun hHeld => ?_)
      clear hK KQ
      refine tkp 8 (.tuple #[.int .i64 lz, .int .i64 rz]) hHeld ?_
      simp only [Act.put, zq1, zq2, zq3, zq4, zq5, zq6]
      refine tkp 9 (.int .i64 lz) hHeld ?_
      simp only [Act.put, zq1, zq2, zq3, zq4, zq5, zq6]
      refine tkp 10 (.int .i64 rz) hHeld ?_
      simp only [Act.put, zq1, zq2, zq3, zq4, zq5, zq6]
      refine tkp 11 (.int .i64 lz) hHeld ?_
      simp only [Act.put, zq1, zq2, zq3, zq4, zq5, zq6]
      refine tkp 12 (.int .i64 rz) hHeld ?_
      simp only [Act.put, zq1, zq2, zq3, zq4, zq5, zq6]
      refine wpAnyH_done (by kernel_rfl) ?_ _
      have HHd := hidden hHeld
      clear hHeld hcl
      go_wp2_with (first
        | (go_at_call 72; refine (HIN.out _ HHd.out).mono ?_; rintro e z2 ⟨cs', rfl, hin2, hi2, hs2⟩; have HIN2 := hidden hin2; have HI2 := hidden hi2; have HS2 := hidden hs2; clear hin2 hi2 hs2))
      exact ⟨⟨m, tkH cs fr', cs', fr'.dropLast, by omega, by rw [HTH.out], rfl, HS2.out, HI2.out, fun cs2 fr2 t2 q => HZ2.out cs' cs2 fr2 t2 HIN2.out q⟩, by simp only [intOf]; omega⟩

end Go.Proofs.YtnnmfgnommbmkaaGreatDoor

namespace Go.Proofs.YtnnmfgnommbmkaaGreatDoor
set_option maxRecDepth 20000
open Go.RowKit

set_option maxHeartbeats 400000 in
theorem equal_any (x y : Value) (xs ys : List Int) (w : World) (hx : Reads w x xs) (hy : Reads w y ys) :
    Calls Tryz.prog 65 #[x, y] w fun e w' => e = .returned (.bool (decide (xs = ys))) ∧ w' = w := by
  have c1 := conv_reads hx
  have c2 := conv_reads hy
  have HB : Hid (((strOfNums xs).toList == (strOfNums ys).toList) = decide (xs = ys)) := by
    obtain ⟨_, _, _, _, _, h1, _⟩ := hx
    obtain ⟨_, _, _, _, _, h2, _⟩ := hy
    exact str_beq xs ys h1 h2
  clear hx hy
  go_enter Tryz.func65, Tryz.ntmps65
  go_wp2
  go_ret
  exact ⟨by rw [← HB.out]; rfl, rfl⟩

end Go.Proofs.YtnnmfgnommbmkaaGreatDoor

namespace Go.Proofs.YtnnmfgnommbmkaaGreatDoor
set_option maxRecDepth 20000
open Go.RowKit

def BesIs (K : List Int) (T : Tre) (h : Nat) (ss : List Nat) : Prop :=
  (T.efin K = [] ∧ ss = T.oth K) ∨ (∃ b, T.efin K = [(K, b)] ∧ ss = T.oth K) ∨ (∃ k b c, T.efin K = [(k, b)] ∧ k ≠ K ∧ IsCommon K k c ∧ (T.oth K).length ≤ c ∧ c < 256 ∧ ss = besX (T.oth K) c (T.fin K h))

theorem bes_ex {cs : List (Nat × Ce)} {pend : List Nat} (W : Wf cs pend) (K : List Int) (hK : Key K) {T : Tre} {h : Nat} (hT : IsT cs h T) (hd : (sdC cs h).kind = 2 → (sdC cs h).dp = 0) : ∃ ss, BesIs K T h ss ∧ BesOk cs T.ents K ss := by
  rcases fin_is K T h hT with ⟨f1, f2⟩ | ⟨k, b, f1, f2, f3, f4, f5, f6⟩
  · exact ⟨_, .inl ⟨f2, rfl⟩, bes_own W K hT hd (fun e he => by rw [f2] at he; cases he)⟩
  · by_cases q : k = K
    · subst q
      exact ⟨_, .inr (.inl ⟨b, f1, rfl⟩), bes_own W k hT hd (fun e he => by rw [f1] at he; rw [List.mem_singleton.1 he])⟩
    · obtain ⟨c, hc⟩ := common_ex K k
      have hk : Key k := ((tree_ok W T h hT).ent (k, b) (efin_mem K T (k, b) (by rw [f1]; simp))).1
      have hc2 : c < 256 := by
        apply Nat.lt_of_not_le
        intro h256
        have : c = 256 := by have := hc.1; omega
        subst this
        exact q (hc.whole hK hk).symm
      obtain ⟨b1, b2⟩ := bes_other W K hT hd f1 c hc hc2
      exact ⟨_, .inr (.inr ⟨k, b, c, f1, q, hc, b1, hc2, rfl⟩), b2⟩

theorem beside_any {w : World} {v : Value} {cs : List (Nat × Ce)} {pend : List Nat} (V : Vw w v true (cot cs) (cat cs)) (W : Wf cs pend) (h : Nat) (T : Tre) (hT : IsT cs h T) (K : List Int) (hK : Key K) (hrd : (sdC cs h).kind = 2 → (sdC cs h).dp = 0) (a : Option Addr) (n c : Nat) (hI : Ints9 w a (T.hs K h)) (hn : n = (T.hs K h).length) (ss : List Nat) (hss : BesIs K T h ss) :
    Calls Tryz.prog 67 #[v, .agg (B K), .slice a n c, .int .i64 (T.fin K h : Int)] w (BesPost ss w) := by
  have hlen : (T.oth K).length = n := by rw [hn, Tre.hs_oth]
  have h256 : n ≤ 256 := by
    have := (way_tree W K T h 0 hT hrd (by omega)).2.2
    omega
  have hat : ∀ k, k < n → ∃ (x o : Nat) (l r q : Int), (∃ lb, a = some ⟨lb, 0, none⟩ ∧ w.cell? ⟨lb, k, none⟩ = some (.int .i64 (x : Int))) ∧ (T.oth K)[k]? = some o ∧ (∀ w', Below w.heap.size w w' → Calls Tryz.prog 25 #[v, .int .i64 (x : Int)] w' fun e w'' => e = .returned (.tuple #[.int .i64 l, .int .i64 r]) ∧ Below w'.heap.size w' w'') ∧ ∀ w', Calls Tryz.prog 71 #[.agg (B K), .int .i64 (k : Int), .int .i64 l, .int .i64 r] w' fun e w'' => e = .returned (.tuple #[.int .i64 q, .int .i64 (o : Int)]) ∧ Below w'.heap.size w' w'' := fun k hk => by
    obtain ⟨x, a1, a2, a3, a4, a5, a6, a7, a8⟩ := hs_at W K T h 0 hT hrd k (by omega)
    rw [Nat.zero_add] at a5 a6 a7
    obtain ⟨lb, e1, e2⟩ := hI k (by omega)
    have hx : (T.hs K h).getD k 0 = x := by rw [List.getD_eq_getElem?_getD, a1]; rfl
    rw [hx] at e2
    have hca := cat_is (cs := cs) a2
    refine ⟨x, _, ((ce cs (x - 1)).l : Int), ((ce cs (x - 1)).r : Int), (if kb K k = 1 then ((ce cs (x - 1)).r : Int) else ((ce cs (x - 1)).l : Int)), ⟨lb, e1, e2⟩, a7, fun w' hb => ?_, fun w' => ?_⟩
    · have := sides_any (V.grow hb) (x : Int)
      rwa [hca] at this
    · have := turned9_any w' K hK k a6 ((ce cs (x - 1)).l : Int) ((ce cs (x - 1)).r : Int)
      have e : ((if kb K k = 1 then (ce cs (x - 1)).l else (ce cs (x - 1)).r : Nat) : Int) = if kb K k = 1 then ((ce cs (x - 1)).l : Int) else ((ce cs (x - 1)).r : Int) := by split <;> rfl
      rw [e]
      exact this
  rcases fin_is K T h hT with ⟨f1, f2⟩ | ⟨k, b, f1, f2, f3, f4, f5, f6⟩
  · rw [f1]
    rcases hss with ⟨_, rfl⟩ | ⟨b, e, _⟩ | ⟨k, b, c', e, _⟩
    · exact beside_none K hK a n c _ hlen h256 hat
    · rw [f2] at e; cases e
    · rw [f2] at e; cases e
  · have hca := cat_is (cs := cs) f2
    have hky : ∀ w', Below w.heap.size w w' → Calls Tryz.prog 29 #[v, .int .i64 (T.fin K h : Int)] w' fun e w'' => e = .returned (.agg (B k)) ∧ Below w'.heap.size w' w'' := fun w' hb => by
      have := key_any (V.grow hb) (T.fin K h : Int)
      rwa [hca, f5] at this
    rcases hss with ⟨e, _⟩ | ⟨b', e, rfl⟩ | ⟨k', b', c', e, e2, e3, e4, e5, rfl⟩
    · rw [f1] at e; cases e
    · rw [f1] at e
      injection e with e _
      injection e with e _
      subst e
      exact beside_own k hK a n c _ hlen h256 hat _ (by omega) hky
    · rw [f1] at e
      injection e with e _
      injection e with e _
      subst e
      have hk : Key k := ((tree_ok W T h hT).ent (k, b) (efin_mem K T (k, b) (by rw [f1]; simp))).1
      exact beside_other K hK a n c _ hlen h256 hat _ (by omega) k hk e2 hky c' e3 (by rw [← hlen]; exact e4) e5

def PlPost (ss : List Nat) (w : World) (e : Ending) (w' : World) : Prop :=
  ∃ a c, e = .returned (.tuple #[.slice a ss.length c, .bool false, .int .i64 0]) ∧ w'.ownsRow w.heap.size 3 1 (.slice a ss.length c) ss.length (nats ss) ∧ Below w.heap.size w w'

set_option maxHeartbeats 2000000 in
theorem plan_same {w : World} {v : Value} {cs : List (Nat × Ce)} {pend : List Nat} (V : Vw w v true (cot cs) (cat cs)) (W : Wf cs pend) (h : Nat) (T : Tre) (hT : IsT cs h T) (K : List Int) (hK : Key K) (he : vRt true (cot cs h) (cat cs h) h = 0) (u : Value) (bs : List Int) (hu : Reads w u bs) (hsm : T.efin K = [(K, bs)]) :
    Calls Tryz.prog 40 #[v, .int .i64 (h : Int), .agg (B K), u] w fun e w' => e = .returned (.tuple #[.slice none 0 0, .bool true, .int .i64 0]) ∧ Below w.heap.size w w' := by
  have HFD : Hid (∀ w', Below w.heap.size w w' → Calls Tryz.prog 64 #[v, .int .i64 (h : Int), .agg (B K)] w' fun e w'' => ∃ a n c, e = .returned (.tuple #[.slice a n c, .bool true, .int .i64 0]) ∧ Reads w'' (.slice a n c) bs ∧ Below w'.heap.size w' w'') := fun w' hb => by
    have := find_any (V.grow hb) W h T hT K hK he
    rw [hsm] at this
    simp only [fnd, if_true] at this
    refine this.mono ?_
    rintro e w'' ⟨v', sp, rfl, o, b⟩
    obtain ⟨a, c, e1, _⟩ := o.reads
    subst e1
    exact ⟨a, _, c, rfl, o.reads, b⟩
  have HPS : Hid ((Tryz.prog.info? 32).map (·.size) = some (B K).size) := by show _ = _; rw [B_size, hK.1]; exact size_path
  have HU := hidden hu
  obtain ⟨ua, uc, hue, _⟩ := hu
  subst hue
  generalize bs.length = un at HU ⊢
  have HEQ : Hid (∀ w' a n c, Reads w' (.slice a n c) bs → Reads w' (.slice ua un uc) bs → Calls Tryz.prog 65 #[.slice a n c, .slice ua un uc] w' fun e w'' => e = .returned (.bool true) ∧ w'' = w') := fun w' a n c r1 r2 => by
    have := equal_any _ _ bs bs w' r1 r2
    simpa using this
  generalize (h : Int) = hh at HFD ⊢
  clear V W hT hK he hsm
  go_enter Tryz.func40, Tryz.ntmps40
  go_wp2_with (first
    | ((with_reducible refine at_bxd 6 ?_); refine wpList_bx _ rfl _ _ rfl _ rfl ?_; intro w1 b5 hg5 hl5 B5 q5; have HB5 := hidden B5; have HQ5 := hidden q5; clear hg5 hl5 B5 q5)
    | ((with_reducible refine at_ldd 19 6 ?_); refine wpList_ld _ rfl _ _ rfl b5 _ rfl HB5.out _ _ Tryz.underlying32 HPS.out ?_)
    | (go_at_call 64; refine (HFD.out _ HQ5.out).mono ?_; rintro e w2 ⟨fa, fn, fc, rfl, r2, b2⟩; have HR2 := hidden r2; have HQ2 := hidden (grow_trans HQ5.out b2); clear r2 b2)
    | (go_at_call 65; refine (HEQ.out _ _ _ _ HR2.out (HU.out.grow HQ2.out)).mono ?_; rintro e w' ⟨rfl, hx⟩; rw [hx]; clear hx w'))
  go_ret3
  exact ⟨rfl, HQ2.out⟩

set_option maxHeartbeats 4000000 in
theorem plan_new {w : World} {v : Value} {cs : List (Nat × Ce)} {pend : List Nat} (V : Vw w v true (cot cs) (cat cs)) (W : Wf cs pend) (h : Nat) (T : Tre) (hT : IsT cs h T) (K : List Int) (hK : Key K) (he : vRt true (cot cs h) (cat cs h) h = 0) (u : Value) (bs : List Int) (hu : Reads w u bs) (hne : T.efin K ≠ [(K, bs)]) (ss : List Nat) (hss : BesIs K T h ss) (h257 : ss.length ≤ 256) (hct : ∀ i, cc cs i < 1073741824) :
    Calls Tryz.prog 40 #[v, .int .i64 (h : Int), .agg (B K), u] w (PlPost ss w) := by
  have hrd := root_dp hT he
  have HPS : Hid ((Tryz.prog.info? 32).map (·.size) = some (B K).size) := by show _ = _; rw [B_size, hK.1]; exact size_path
  have HHD : Hid (∀ w', Below w.heap.size w w' → Calls Tryz.prog 66 #[v, .int .i64 (h : Int), .agg (B K)] w' (HdPost (T.hs K h) (T.fin K h) w')) := fun w' hb => handles_any (V.grow hb) W h T hT K hK he
  have HBS : Hid (∀ w' a c, Below w.heap.size w w' → Ints9 w' a (T.hs K h) → Calls Tryz.prog 67 #[v, .agg (B K), .slice a (T.hs K h).length c, .int .i64 (T.fin K h : Int)] w' (BesPost ss w')) := fun w' a c hb hi => beside_any (V.grow hb) W h T hT K hK hrd a _ c hi rfl ss hss
  have hct2 : ∀ q, cot cs q < 1073741824 := fun q => by
    unfold cot
    split
    · exact hct _
    · omega
  have h256 : (T.hs K h).length ≤ 256 := by
    have := (way_tree W K T h 0 hT hrd (by omega)).2.2
    rw [Tre.hs_oth]
    omega
  have HCN : Hid (∀ w' a1 a2 c1 c2, Below w.heap.size w w' → Ints9 w' a1 (T.hs K h) → Ints9 w' a2 ss → Calls Tryz.prog 68 #[v, .slice a1 (T.hs K h).length c1, .slice a2 ss.length c2] w' fun e w'' => e = .returned (.bool true) ∧ Below w'.heap.size w' w'') := fun w' a1 a2 c1 c2 hb i1 i2 => countable_any (V.grow hb) hct2 a1 a2 _ _ c1 c2 _ _ i1 i2 rfl rfl h256 (by omega)
  have HPost : Hid (∀ a c w', w'.ownsRow w.heap.size 3 1 (.slice a ss.length c) ss.length (nats ss) → Below w.heap.size w w' → PlPost ss w (.returned (.tuple #[.slice a ss.length c, .bool false, .int .i64 0])) w') := fun a c w' h1 h2 => ⟨a, c, rfl, h1, h2⟩
  have hfin := find_any V W h T hT K hK he
  have HFD : Hid (∀ w', Below w.heap.size w w' → Calls Tryz.prog 64 #[v, .int .i64 (h : Int), .agg (B K)] w' fun e w'' => ∃ a n c, e = .returned (.tuple #[.slice a n c, .bool (fnd (T.efin K) K).2, .int .i64 0]) ∧ Reads w'' (.slice a n c) (fnd (T.efin K) K).1 ∧ Below w'.heap.size w' w'') := fun w' hb => by
    refine (find_any (V.grow hb) W h T hT K hK he).mono ?_
    rintro e w'' ⟨v', sp, rfl, o, b⟩
    obtain ⟨a, c, e1, _⟩ := o.reads
    subst e1
    exact ⟨a, _, c, rfl, o.reads, b⟩
  have hfe : (fnd (T.efin K) K).2 = true → (fnd (T.efin K) K).1 ≠ bs := fun h2 e => by
    rcases fin_is K T h hT with ⟨f1, f2⟩ | ⟨k, b, f1, f2, f3, f4, f5, f6⟩
    · rw [f2] at h2
      cases h2
    · rw [f1] at h2 e hne
      by_cases q : k = K
      · simp only [fnd, q, if_true] at e
        exact hne (by rw [q, e])
      · simp [fnd, q] at h2
  have HU := hidden hu
  obtain ⟨ua, uc, hue, _⟩ := hu
  subst hue
  generalize bs.length = un at HU ⊢
  have HEQ : Hid ((fnd (T.efin K) K).2 = true → ∀ w' a n c, Reads w' (.slice a n c) (fnd (T.efin K) K).1 → Reads w' (.slice ua un uc) bs → Calls Tryz.prog 65 #[.slice a n c, .slice ua un uc] w' fun e w'' => e = .returned (.bool false) ∧ w'' = w') := fun h2 w' a n c r1 r2 => by
    have := equal_any _ _ _ bs w' r1 r2
    simpa [hfe h2] using this
  generalize (fnd (T.efin K) K).1 = fb at HFD HEQ
  generalize (fnd (T.efin K) K).2 = fd at HFD HEQ
  generalize (h : Int) = hh at HFD HHD ⊢
  generalize (T.fin K h : Int) = fin at HHD HBS
  have HHE : Hid (∀ w', Below w.heap.size w w' → Calls Tryz.prog 66 #[v, .int .i64 hh, .agg (B K)] w' fun e w'' => ∃ a c, e = .returned (.tuple #[.slice a (T.hs K h).length c, .int .i64 fin, .int .i64 0]) ∧ Ints9 w'' a (T.hs K h) ∧ Below w'.heap.size w' w'') := fun w' hb => (HHD.out w' hb).mono fun e w'' ⟨a, c, e1, o, b⟩ => ⟨a, c, e1, ints9_lst (owR_lst o) rfl, b⟩
  have HBE : Hid (∀ w' a c, Below w.heap.size w w' → Ints9 w' a (T.hs K h) → Calls Tryz.prog 67 #[v, .agg (B K), .slice a (T.hs K h).length c, .int .i64 fin] w' fun e w'' => ∃ a c, e = .returned (.slice a ss.length c) ∧ w''.ownsRow w'.heap.size 3 1 (.slice a ss.length c) ss.length (nats ss) ∧ Below w'.heap.size w' w'') := HBS
  generalize PlPost ss w = P at HPost ⊢
  generalize T.hs K h = hs at HHE HBE HCN
  generalize hs.length = hn at HHE HBE HCN
  have HIN : Hid (∀ w' b a c, w'.ownsRow b 3 1 (.slice a ss.length c) ss.length (nats ss) → Ints9 w' a ss) := fun w' b a c o => ints9_lst (owR_lst o) rfl
  generalize ss.length = sn at HBE HCN HPost HIN
  clear V W hT hK he hne hss h257 hct hct2 hrd HHD HBS h256 hfe hfin
  cases fd with
  | true =>
    have HE := hidden (HEQ.out rfl)
    clear HEQ
    go_enter Tryz.func40, Tryz.ntmps40
    go_wp2_with (first
      | ((with_reducible refine at_bxd 6 ?_); refine wpList_bx _ rfl _ _ rfl _ rfl ?_; intro w1 b5 hg5 hl5 B5 q5; have HB5 := hidden B5; have HQ5 := hidden q5; clear hg5 hl5 B5 q5)
      | ((with_reducible refine at_ldd 19 6 ?_); refine wpList_ld _ rfl _ _ rfl b5 _ rfl HB5.out _ _ Tryz.underlying32 HPS.out ?_)
      | (go_at_call 64; refine (HFD.out _ HQ5.out).mono ?_; rintro e w2 ⟨fa, fn, fc, rfl, r2, b2⟩; have HR2 := hidden r2; have HQ2 := hidden (grow_trans HQ5.out b2); have HB2 := hidden (HB5.out.grow b2); clear r2 b2)
      | (go_at_call 65; refine (HE.out _ _ _ _ HR2.out (HU.out.grow HQ2.out)).mono ?_; rintro e w' ⟨rfl, hx⟩; rw [hx]; clear hx w')
      | ((with_reducible refine at_ldd 33 6 ?_); refine wpList_ld _ rfl _ _ rfl b5 _ rfl HB2.out _ _ Tryz.underlying32 HPS.out ?_)
      | (go_at_call 66; refine (HHE.out _ HQ2.out).mono ?_; rintro e w3 ⟨ha, hc, rfl, i3, b3⟩; have HI3 := hidden i3; have HQ3 := hidden (grow_trans HQ2.out b3); have HB3 := hidden (HB2.out.grow b3); clear i3 b3)
      | ((with_reducible refine at_ldd 39 6 ?_); refine wpList_ld _ rfl _ _ rfl b5 _ rfl HB3.out _ _ Tryz.underlying32 HPS.out ?_)
      | (go_at_call 67; refine (HBE.out _ _ _ HQ3.out HI3.out).mono ?_; rintro e w4 ⟨sa, sc, rfl, o4, b4⟩; have HO4 := hidden (owR_base o4 HQ3.out.size); have HI4 := hidden (HI3.out.grow b4); have HQ4 := hidden (grow_trans HQ3.out b4); clear o4 b4)
      | (go_at_call 68; refine (HCN.out _ _ _ _ _ HQ4.out HI4.out (HIN.out _ _ _ _ HO4.out)).mono ?_; rintro e w5 ⟨rfl, b5⟩; have HO5 := hidden (owR_grow HO4.out b5); have HQ5' := hidden (grow_trans HQ4.out b5); clear b5))
    go_ret3
    exact HPost.out _ _ _ HO5.out HQ5'.out
  | false =>
    clear HEQ
    go_enter Tryz.func40, Tryz.ntmps40
    go_wp2_with (first
      | ((with_reducible refine at_bxd 6 ?_); refine wpList_bx _ rfl _ _ rfl _ rfl ?_; intro w1 b5 hg5 hl5 B5 q5; have HB5 := hidden B5; have HQ5 := hidden q5; clear hg5 hl5 B5 q5)
      | ((with_reducible refine at_ldd 19 6 ?_); refine wpList_ld _ rfl _ _ rfl b5 _ rfl HB5.out _ _ Tryz.underlying32 HPS.out ?_)
      | (go_at_call 64; refine (HFD.out _ HQ5.out).mono ?_; rintro e w2 ⟨fa, fn, fc, rfl, r2, b2⟩; have HQ2 := hidden (grow_trans HQ5.out b2); have HB2 := hidden (HB5.out.grow b2); clear r2 b2)
      | ((with_reducible refine at_ldd 33 6 ?_); refine wpList_ld _ rfl _ _ rfl b5 _ rfl HB2.out _ _ Tryz.underlying32 HPS.out ?_)
      | (go_at_call 66; refine (HHE.out _ HQ2.out).mono ?_; rintro e w3 ⟨ha, hc, rfl, i3, b3⟩; have HI3 := hidden i3; have HQ3 := hidden (grow_trans HQ2.out b3); have HB3 := hidden (HB2.out.grow b3); clear i3 b3)
      | ((with_reducible refine at_ldd 39 6 ?_); refine wpList_ld _ rfl _ _ rfl b5 _ rfl HB3.out _ _ Tryz.underlying32 HPS.out ?_)
      | (go_at_call 67; refine (HBE.out _ _ _ HQ3.out HI3.out).mono ?_; rintro e w4 ⟨sa, sc, rfl, o4, b4⟩; have HO4 := hidden (owR_base o4 HQ3.out.size); have HI4 := hidden (HI3.out.grow b4); have HQ4 := hidden (grow_trans HQ3.out b4); clear o4 b4)
      | (go_at_call 68; refine (HCN.out _ _ _ _ _ HQ4.out HI4.out (HIN.out _ _ _ _ HO4.out)).mono ?_; rintro e w5 ⟨rfl, b5⟩; have HO5 := hidden (owR_grow HO4.out b5); have HQ5' := hidden (grow_trans HQ4.out b5); clear b5))
    go_ret3
    exact HPost.out _ _ _ HO5.out HQ5'.out

end Go.Proofs.YtnnmfgnommbmkaaGreatDoor
