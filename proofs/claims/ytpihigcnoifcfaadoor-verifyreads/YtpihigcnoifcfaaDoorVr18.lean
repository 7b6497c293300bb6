/- octet.digit and octet.Hex, as contracts. -/
import Derived.Test.YtpihigcnoifcfaaDoorVr17
import Derived.Test.YtpihigcnoifcfaaDoorVr01
import Derived.Deep.RegionLaw
import Derived.Lib.SlBytesConst
namespace Go.Proofs.YtpihigcnoifcfaaDoor
set_option maxRecDepth 20000
open Go.RowKit

theorem and15 (z : Int) (h0 : 0 ≤ z) (h1 : z ≤ 255) : bits .and .u8 z 15 = z % 16 := by
  rw [u8_and z 15 h0 (by omega) (by omega) (by omega)]
  have : (15 : Int).toNat = 15 := rfl
  rw [this, nat_mask4]
  omega

theorem digits_fin : ∀ n : Fin 16, (((⟨#[48, 49, 50, 51, 52, 53, 54, 55, 56, 57, 97, 98, 99, 100, 101, 102]⟩ : ByteArray)[n.val]'(by have := n.isLt; exact this)).toNat : Int) = hd n.val := by
  decide +kernel

theorem digits_get (v : Int) (h0 : 0 ≤ v) (h1 : v < 16) (hh : v.toNat < (⟨#[48, 49, 50, 51, 52, 53, 54, 55, 56, 57, 97, 98, 99, 100, 101, 102]⟩ : ByteArray).size) :
    (((⟨#[48, 49, 50, 51, 52, 53, 54, 55, 56, 57, 97, 98, 99, 100, 101, 102]⟩ : ByteArray)[v.toNat]'hh).toNat : Int) = hd v := by
  have := digits_fin ⟨v.toNat, by omega⟩
  have e : ((v.toNat : Nat) : Int) = v := by omega
  simp only [e] at this
  exact this

theorem pair_reads (w : World) (a b : UInt8) : Reads ((w.alloc (.cells #[.int .u8 (a.toNat : Int), .int .u8 (b.toNat : Int)] 5)).drew) (.slice (some ⟨w.heap.size, 0, none⟩) 2 2) [(a.toNat : Int), (b.toNat : Int)] := by
  have ha := a.toNat_lt
  have hb := b.toNat_lt
  refine ⟨_, 2, rfl, Nat.le_refl _, fun h => by simp at h, ?_, fun _ => ⟨w.heap.size, 0, rfl, ?_⟩⟩
  · intro z hz
    simp at hz
    rcases hz with rfl | rfl <;> omega
  · intro i hi
    have hr : ((w.alloc (.cells #[.int .u8 (a.toNat : Int), .int .u8 (b.toNat : Int)] 5)).drew).heap[w.heap.size]? = some (.cells #[.int .u8 (a.toNat : Int), .int .u8 (b.toNat : Int)] 5 (0, 0)) := heap_alloc_new w _
    rw [cell_of_row _ _ _ _ _ _ hr]
    match i, hi with
    | 0, _ => rfl
    | 1, _ => rfl

end Go.Proofs.YtpihigcnoifcfaaDoor

/- ShaNil's walk: the law returns true at every b, and nothing that was in memory turns. -/
namespace Go.Proofs.YtpihigcnoifcfaaDoor
set_option maxRecDepth 20000
open Go.RowKit

theorem abc_reads (w : World) : Reads (w.alloc (.cells #[.int .u8 97, .int .u8 98, .int .u8 99] 5 (3, 4))) (.slice (some ⟨w.heap.size, 0, none⟩) 3 3) [97, 98, 99] := by
  refine ⟨_, 3, rfl, Nat.le_refl _, fun h => by simp at h, by intro z hz; simp at hz; omega, fun _ => ⟨w.heap.size, 0, rfl, ?_⟩⟩
  intro i hi
  have hr : (w.alloc (.cells #[.int .u8 97, .int .u8 98, .int .u8 99] 5 (3, 4))).heap[w.heap.size]? = some (.cells #[.int .u8 97, .int .u8 98, .int .u8 99] 5 (3, 4)) := heap_alloc_new w _
  rw [cell_of_row _ _ _ _ _ _ hr]
  match i, hi with
  | 0, _ => rfl
  | 1, _ => rfl
  | 2, _ => rfl

theorem abc_text : ((strOfNums (hx (dig [97, 98, 99]))).toList == [98, 97, 55, 56, 49, 54, 98, 102, 56, 102, 48, 49, 99, 102, 101, 97, 52, 49, 52, 49, 52, 48, 100, 101, 53, 100, 97, 101, 50, 50, 50, 51, 98, 48, 48, 51, 54, 49, 97, 51, 57, 54, 49, 55, 55, 97, 57, 99, 98, 52, 49, 48, 102, 102, 54, 49, 102, 50, 48, 48, 49, 53, 97, 100]) = true := by
  rw [dig_abc]
  kernel_rfl

theorem Blk.reads {w : World} {g : Nat} {t : TypeId} {zs : List Int} (h : Blk w g t (B zs)) (hb : Bytes zs) : Reads w (.slice (some ⟨g, 0, none⟩) zs.length zs.length) zs :=
  ⟨_, _, rfl, Nat.le_refl _, fun h => by simp at h, hb, fun _ => ⟨g, 0, rfl, fun i hi => by rw [Nat.zero_add]; exact h.bcell i hi⟩⟩

end Go.Proofs.YtpihigcnoifcfaaDoor

/- The document's digest (rootcellarref02.Sum), as a contract. -/
namespace Go.Proofs.YtpihigcnoifcfaaDoor
set_option maxRecDepth 20000
open Go.RowKit

theorem zero_b32' : ∀ w, (zeroValue 22).run Tryd.prog w = .ok (.agg (B (List.replicate 32 0))) w := Tryd.zeroValue22

theorem out_get (W : List Int) (i : Nat) (hi : i / 4 < W.length) : (out W).getD i 0 = W.getD (i / 4) 0 / 2 ^ (24 - 8 * (i % 4)) % 256 := by
  induction W generalizing i with
  | nil => simp at hi
  | cons a W ih =>
    have e : out (a :: W) = [a / 16777216 % 256, a / 65536 % 256, a / 256 % 256, a % 256] ++ out W := by simp [out]
    rw [e]
    by_cases h4 : i < 4
    · have hd : i / 4 = 0 := by omega
      rw [hd]
      match i, h4 with
      | 0, _ => simp
      | 1, _ => simp
      | 2, _ => simp
      | 3, _ => simp
    · obtain ⟨j, rfl⟩ : ∃ j, i = j + 4 := ⟨i - 4, by omega⟩
      have h1 := ih j (by simp at hi; omega)
      rw [show (j + 4) / 4 = j / 4 + 1 by omega, show (j + 4) % 4 = j % 4 by omega, List.getD_cons_succ, ← h1]
      simp [List.getD]

theorem Own.cells {base : Nat} {w : World} {a : Option Addr} {n c : Nat} {zs sp : List Int} (h : Own base w (.slice a n c) zs sp) (hp : 0 < zs.length) : ∃ g, a = some ⟨g, 0, none⟩ ∧ base ≤ g ∧ g < w.heap.size ∧ n = zs.length ∧ n ≤ c ∧ ∀ i, i < zs.length → w.cell? ⟨g, i, none⟩ = some (.int .u8 (zs.getD i 0)) := by
  obtain ⟨h1, h2, h3, h4⟩ := h
  rcases h4 with ⟨e, rfl, rfl⟩ | ⟨g, rest, hg, e, hr⟩
  · simp at hp
  · injection e with e1 e2 e3
    subst e1
    refine ⟨g, rfl, hg, hr.lt, e2, by omega, fun i hi => ?_⟩
    rw [hr.cell i (by simp; omega), List.append_assoc]
    simp [List.getD, List.getElem?_append_left hi]

theorem whole_over (xs ys : List Value) (h : xs.length = ys.length) : (xs.take 0 ++ (ys ++ xs.drop (0 + ys.length))).toArray = ys.toArray := by
  rw [List.take_zero, List.nil_append, List.drop_of_length_le (by omega), List.append_nil]

theorem take_set_next (l : List Int) (i m : Nat) (hi : i < l.length) : (l.take i ++ List.replicate (m + 1) 0).set i (l.getD i 0) = l.take (i + 1) ++ List.replicate m 0 := by
  have hl : (l.take i).length = i := by simp; omega
  rw [List.replicate_succ, List.set_append_right _ _ (by omega), hl, Nat.sub_self, List.set_cons_zero, List.take_succ_eq_append_getElem hi, List.append_assoc]
  simp only [List.getD, List.getElem?_eq_getElem hi, Option.getD_some, List.singleton_append]

set_option maxHeartbeats 4000000 in
set_option maxRecDepth 10000 in
theorem refSum_any (v : Value) (bs : List Int) (w : World) (hr : Reads w v bs) (hlen : bs.length ≤ 140737488355328 - 4096) :
    Calls Tryd.prog 62 #[v] w fun e w' => e = .returned (.agg (B (dig bs))) ∧ Below w.heap.size w w' := by
  have HR := hidden hr
  obtain ⟨a, c, rfl, hlc, _, hby, _⟩ := hr
  have HBY := hidden hby
  clear hby
  obtain ⟨n, hn⟩ : ∃ n, n = bs.length := ⟨_, rfl⟩
  have HN := hidden hn
  rw [← hn] at hlen hlc ⊢
  obtain ⟨q, hq⟩ : ∃ q, q = (119 - n % 64) % 64 := ⟨_, rfl⟩
  have HQ := hidden hq
  have q64 : q < 64 := by omega
  clear hq hn
  go_enter Tryd.func62, Tryd.ntmps62
  go_wp2_with (first
    | (refine wpList_al _ rfl _ rfl _ zero_b32' ?_; intro w1 g1 hg1 hl1 B1 b1; have R1 := HR.out.grow b1; rw [← HN.out] at R1)
    | (at_builtin; have hx := o2; clear hx; refine wpList_app _ rfl _ _ rfl w1.heap.size _ _ bs sp2 [128] (o2.grow (grow_alloc _ _)) (one_reads _ _ (by omega) (by omega)) rfl rfl (by rw [← HN.out]; simp; omega) (by have := g2.size; simp at this ⊢; omega) ?_; intro v3 w3 sp3 o3 g3 e3 f3)
    | (at_builtin; refine wpList_app _ rfl _ _ rfl w1.heap.size _ _ [] [] bs (Own.empty _ _ (Nat.le_refl _)) (R1.grow (grow_alloc _ _)) rfl rfl (by rw [← HN.out]; simp; omega) (by simp) ?_; intro v2 w2 sp2 o2 g2 e2 f2))
  have c1 : Below w1.heap.size w1 (w1.alloc (.cells #[] 5)) := grow_alloc _ _
  have c2 : Below w1.heap.size w1 w2 := c1.grown g2 c1.size (fun k hk => ((Own.empty w1.heap.size w1 (Nat.le_refl _)).lt k hk).1)
  have c3 : Below w1.heap.size w1 w3 := (c2.trans ((grow_alloc w2 (.cells #[.int .u8 128] 5)).mono c2.size)).grown g3 (by have := c2.size; simp; omega) (fun k hk => (o2.lt k hk).1)
  obtain ⟨a3, q3, hv3⟩ := o3.slice
  have hv3' : v3 = .slice a3 (n + 1 + 0) q3 := by
    rw [hv3, List.length_append, HN.out]
    rfl
  subst hv3'
  have O3 : Hid (Own w1.heap.size w3 (.slice a3 (n + 1 + 0) q3) (bs ++ 128 :: List.replicate 0 0) sp3) := o3
  obtain ⟨L3, hL3⟩ : ∃ L, L = n + 1 + 0 := ⟨_, rfl⟩
  have HL3 := hidden hL3
  rw [← hL3] at O3 ⊢
  clear hL3 hv3 o2 o3 g2 g3 e2 e3 f2 f3 c1 c2 R1
  go_loopw [3] (fun v wr => ∃ (j L : Nat) (a' : Option Addr) (c' : Nat) (sp : List Int), j ≤ q ∧ Hid (L = n + 1 + j) ∧ v = .slice a' L c' ∧ Hid (Own w1.heap.size wr (.slice a' L c') (bs ++ 128 :: List.replicate j 0) sp) ∧ Below w1.heap.size w1 wr) (fun v _ => n + 1 + q - slen v)
  case atStart => exact ⟨0, L3, a3, q3, sp3, by omega, HL3, rfl, O3, c3⟩
  case round =>
    clear O3 c3
    obtain ⟨j, L, a', c', sp, hj, hL, rfl, hO, hbl⟩ := hrel
    have L0 : (0 : Int) ≤ (L : Int) := by omega
    by_cases hlt : j < q
    · have hne : ((L : Int) % 64 == 56) = false := beq_eq_false_iff_ne.2 (by have := hL.out; have := HQ.out; omega)
      have hne2 : ¬ ((L : Int) % 64 = 56) := by have := hL.out; have := HQ.out; omega
      have hLl : L ≤ 140737488355328 - 4000 := by have := hL.out; omega
      go_wp2_with (at_builtin; refine wpList_app _ rfl _ _ rfl w1.heap.size _ _ (bs ++ 128 :: List.replicate j 0) sp [0] (hO.out.grow (grow_alloc _ _)) (one_reads _ _ (by omega) (by omega)) rfl rfl (by have := hL.out; simp [← HN.out]; omega) (by have := hbl.size; simp; omega) ?_; intro v' w' sp' h1 h2 h3 h4)
      obtain ⟨a'', c'', hv'⟩ := h1.slice
      have hLn : (bs ++ 128 :: List.replicate j 0 ++ [0]).length = L + 1 := by
        have := hL.out
        simp [← HN.out]
        omega
      rw [hLn] at hv'
      subst hv'
      have hb' : Below w1.heap.size w1 w' := (hbl.trans ((grow_alloc wr (.cells #[.int .u8 0] 5)).mono hbl.size)).grown h2 (by have := hbl.size; simp; omega) (fun k hk => (hO.out.lt k hk).1)
      have h1' : Own w1.heap.size w' (.slice a'' (L + 1) c'') (bs ++ 128 :: List.replicate (j + 1) 0) sp' := by
        rw [List.replicate_succ']
        simpa using h1
      exact ⟨⟨j + 1, L + 1, a'', c'', sp', by omega, by show _ = _; have := hL.out; omega, rfl, h1', hb'⟩, by have := hL.out; simp [slen]; omega⟩
    · have hjq : j = q := by omega
      have hne : ((L : Int) % 64 == 56) = true := beq_iff_eq.2 (by have := hL.out; have := HQ.out; omega)
      have hne2 : ((L : Int) % 64 = 56) := by have := hL.out; have := HQ.out; omega
      have O0 : Hid (Own w1.heap.size wr (.slice a' L c') (bs ++ (128 :: List.replicate q 0 ++ be8 (8 * (n : Int)) 0)) sp) := by
        have := hO.out
        rw [hjq] at this
        show Own _ _ _ _ _
        simpa [be8] using this
      have HL0 : Hid (L = n + 1 + q + 0) := by have := hL.out; show _ = _; omega
      clear hO hL hjq
      go_wp2_with fail
      clear hne hne2
      go_loopw [3, 5] (fun v i wr => ∃ (j L : Nat) (a' : Option Addr) (c' : Nat) (sp : List Int), j ≤ 8 ∧ Hid (L = n + 1 + q + j) ∧ i = .int .i64 (7 - (j : Int)) ∧ v = .slice a' L c' ∧ Hid (Own w1.heap.size wr (.slice a' L c') (bs ++ (128 :: List.replicate q 0 ++ be8 (8 * (n : Int)) j)) sp) ∧ Below w1.heap.size w1 wr) (fun _ i _ => (intOf i + 1).toNat)
      case atStart => exact ⟨0, L, a', c', sp, by omega, HL0, rfl, rfl, O0, hbl⟩
      case round =>
        clear O0 HL0 hbl L0 hlt hj
        obtain ⟨j, L, a', c', sp, hj, hL, rfl, rfl, hO, hbl⟩ := hrel
        obtain ⟨w7, rfl⟩ : ∃ x, x = wr := ⟨_, rfl⟩
        by_cases hlt : j < 8
        · obtain ⟨s, hs⟩ : ∃ s : Nat, 7 - (j : Int) = (s : Int) := ⟨7 - j, by omega⟩
          have HS : Hid (s = 7 - j) := by show s = _; omega
          have s0 : (0 : Int) ≤ (s : Int) := by omega
          have s1 : (s : Int) ≤ 7 := by omega
          obtain ⟨u, hu⟩ : ∃ u : Nat, 8 * (s : Int) = (u : Int) := ⟨8 * s, by omega⟩
          have HU : Hid (u = 8 * s) := by show u = _; omega
          have u0 : (0 : Int) ≤ (u : Int) := by omega
          have u1 : (u : Int) < 64 := by omega
          have ru : IntKind.i64.wrap (u : Int) = (u : Int) := by rw [IntKind.wrap_i64]; omega
          rw [hs]
          have HE : Hid (be8 (8 * (n : Int)) (j + 1) = be8 (8 * (n : Int)) j ++ [(n : Int) * 8 / 2 ^ u % 256]) := by
            show _ = _
            rw [be8, HU.out, HS.out, Int.mul_comm]
          have z0 : 0 ≤ (n : Int) * 8 / 2 ^ u % 256 := by omega
          have z1 : (n : Int) * 8 / 2 ^ u % 256 ≤ 255 := by omega
          clear hs
          go_wp2_with (at_builtin; refine wpList_app _ rfl _ _ rfl w1.heap.size _ _ (bs ++ (128 :: List.replicate q 0 ++ be8 (8 * (n : Int)) j)) sp [(n : Int) * 8 / 2 ^ u % 256] (hO.out.grow (grow_alloc _ _)) (one_reads _ _ z0 z1) rfl rfl (by have := hL.out; simp [← HN.out, be8_length]; omega) (by have := hbl.size; simp; omega) ?_; intro v' w' sp' h1 h2 h3 h4)
          obtain ⟨a'', c'', hv'⟩ := h1.slice
          have hLn : (bs ++ (128 :: List.replicate q 0 ++ be8 (8 * (n : Int)) j) ++ [(n : Int) * 8 / 2 ^ u % 256]).length = L + 1 := by
            have := hL.out
            simp [← HN.out, be8_length]
            omega
          rw [hLn] at hv'
          subst hv'
          have hb' : Below w1.heap.size w1 w' := (hbl.trans ((grow_alloc w7 (.cells #[.int .u8 ((n : Int) * 8 / 2 ^ u % 256)] 5)).mono hbl.size)).grown h2 (by have := hbl.size; simp; omega) (fun k hk => (hO.out.lt k hk).1)
          have h1' : Own w1.heap.size w' (.slice a'' (L + 1) c'') (bs ++ (128 :: List.replicate q 0 ++ be8 (8 * (n : Int)) (j + 1))) sp' := by
            rw [HE.out]
            simpa using h1
          refine ⟨⟨j + 1, L + 1, a'', c'', sp', by omega, by show _ = _; have := hL.out; omega, ?_, rfl, h1', hb'⟩, ?_⟩
          · have := HS.out
            congr 1
            omega
          · have := HS.out
            simp [intOf]
        · obtain rfl : j = 8 := by omega
          rw [show (7 : Int) - ((8 : Nat) : Int) = -1 from rfl]
          have OL : Hid (Own w1.heap.size w7 (.slice a' L c') (bs ++ pad n) sp) := by
            have := hO.out
            show Own _ _ _ _ _
            rw [pad, ← HQ.out]
            exact this
          have HLL : Hid (L = (bs ++ pad n).length) := by
            have := hL.out
            have := HQ.out
            show _ = _
            rw [List.length_append, pad_length, ← HN.out]
            omega
          have HL64 : Hid (L % 64 = 0) := by
            have := hL.out
            have := HQ.out
            show _ = _
            omega
          have hLl : L ≤ 140737488355328 - 3900 := by have := hL.out; omega
          clear hO hL
          go_wp2_with (first | (refine wpList_bld _ rfl _ _ rfl (U hs) (by kernel_rfl) ?_) | (refine wpList_al _ rfl _ rfl _ zero_w8 ?_; intro w8 g8 hg8 hl8 B8 b8) | (refine wpList_sto _ rfl _ _ _ rfl g8 _ (U hs) rfl rfl B8 (by exact size_w8) (by rw [U_size]; rfl) (U_one _) ?_; intro w9 B9 gg9))
          have hT0 : 0 < (bs ++ pad n).length := by rw [List.length_append, pad_length]; omega
          obtain ⟨gl, ha', hgl, hgl7, hLT, hLc, hcl⟩ := OL.out.cells hT0
          subst ha'
          have n81 : g1 ≠ g8 := by omega
          have n8l : gl ≠ g8 := by omega
          have CL : Hid (∀ i, i < L → w9.cell? ⟨gl, i, none⟩ = some (.int .u8 ((bs ++ pad n).getD i 0))) := by
            intro i hi
            have h1 := hcl i (by rw [← HLL.out]; exact hi)
            have h2 := below_cell b8 h1
            have h3 := gg9.block gl (block_lt_of_cell h2) (fun e => n8l (by injection e))
            rw [← h2]
            unfold World.cell?
            simp only [h3]
          have HB9 : Hid (Blk w9 g8 113 (U (eat (bs ++ pad n) 0))) := B9
          have c7 := b1.trans (hbl.mono b1.size)
          have c8 := c7.trans (b8.mono c7.size)
          have c9 := hidden (below_row c8 gg9 (by have := c7.size; omega))
          have HB1 : Hid (Blk w9 g1 22 (B (List.replicate 32 0))) := ((B1.grow hbl).grow b8).kept gg9 n81
          have HTB : Hid (Bytes (bs ++ pad n)) := HBY.out.append (pad_bytes n)
          have HDG : Hid (dig bs = out (eat (bs ++ pad n) (L / 64))) := by
            show _ = _
            rw [dig, ← HN.out, HLL.out, List.length_append, ← HN.out]
          have m8 : w.heap.size ≤ g8 := by have := c7.size; omega
          clear OL hcl B8 b8 B9 gg9 c7 c8 hbl hT0 hgl hgl7 hg8 hl8 B1 hLT
          generalize bs ++ pad n = T at *
          go_loopw [7] (fun i wr => ∃ k ii : Nat, Hid (ii = 64 * k) ∧ ii ≤ L ∧ i = .int .i64 ii ∧ Hid (Blk wr g8 113 (U (eat T k))) ∧ Hid (Blk wr g1 22 (B (List.replicate 32 0))) ∧ Hid (∀ i, i < L → wr.cell? ⟨gl, i, none⟩ = some (.int .u8 (T.getD i 0))) ∧ Hid (Below w.heap.size w wr)) (fun i _ => L - (intOf i).toNat)
          case atStart => exact ⟨0, 0, rfl, by omega, rfl, HB9, HB1, CL, c9⟩
          case round =>
            clear HB9 HB1 CL c9
            obtain ⟨k, ii, hii, hiL, rfl, hB8, hB1, hCL, hbl⟩ := hrel
            obtain ⟨w10, rfl⟩ : ∃ x, x = wr := ⟨_, rfl⟩
            have i0 : (0 : Int) ≤ (ii : Int) := by omega
            by_cases hlt : ii < L
            · obtain ⟨e, he⟩ : ∃ e : Nat, (ii : Int) + 64 = (e : Int) := ⟨ii + 64, by omega⟩
              have i1 : (ii : Int) < (L : Int) := by omega
              have HEE : Hid (e = ii + 64) := by show e = _; omega
              have heL : e ≤ L := by have := hii.out; have := HEE.out; have := HL64.out; omega
              have e0 : (0 : Int) ≤ (e : Int) := by omega
              have e1 : (ii : Int) ≤ (e : Int) := by omega
              have e2 : (e : Int) ≤ (c' : Int) := by omega
              have re : IntKind.i64.wrap (e : Int) = (e : Int) := by rw [IntKind.wrap_i64]; omega
              have e3 : e - ii = 64 := by omega
              have e4 : ¬ (c' = ii) := by omega
              have e5 : (ii : Int) ≤ (c' : Int) := by omega
              have hU8 : Hid ((U (eat T k)).toList.length = 8) := by rw [U_toList, List.length_map]; exact eat_length _ _
              go_wp2_with fail
              refine wp_region_any (by kernel_rfl) ?_
              change wpAny _ _ _ _ _ _ _ (World.drew _)
              refine wpAny_take (i := 1) (v := .slice (some ⟨gl, 0, none⟩) L c') rfl (by kernel_rfl) (by kernel_rfl) (by kernel_rfl) (fun _ _ _ h => h) (Or.inl ⟨by rfl, fun w => by go_simp⟩) ?_
              simp only [Act.put, List.getElem_toArray, List.getElem_cons_zero, List.getElem_cons_succ, List.setIfInBounds_toArray, List.set_cons_zero, List.set_cons_succ]
              refine wpAny_take (i := 2) (v := .int .i64 (ii : Int)) rfl (by kernel_rfl) (by kernel_rfl) (by kernel_rfl) (fun _ _ _ h => h) (Or.inl ⟨by rfl, fun w => by go_simp⟩) ?_
              simp only [Act.put, List.getElem_toArray, List.getElem_cons_zero, List.getElem_cons_succ, List.setIfInBounds_toArray, List.set_cons_zero, List.set_cons_succ]
              refine wpAny_take (i := 3) (v := .int .i64 (ii : Int)) rfl (by kernel_rfl) (by kernel_rfl) (by kernel_rfl) (fun _ _ _ h => h) (Or.inl ⟨by rfl, fun w => by go_simp⟩) ?_
              simp only [Act.put, List.getElem_toArray, List.getElem_cons_zero, List.getElem_cons_succ, List.setIfInBounds_toArray, List.set_cons_zero, List.set_cons_succ]
              refine wpAny_take (i := 4) (v := .int .i64 (e : Int)) rfl (by kernel_rfl) (by kernel_rfl) (by kernel_rfl) (fun _ _ _ h => h) (Or.inl ⟨by rfl, fun w => by go_simp⟩) ?_
              simp only [Act.put, List.getElem_toArray, List.getElem_cons_zero, List.getElem_cons_succ, List.setIfInBounds_toArray, List.set_cons_zero, List.set_cons_succ]
              refine wpAny_take (i := 5) (v := .slice (some ⟨gl, ii, none⟩) 64 (c' - ii)) rfl (by kernel_rfl) (by kernel_rfl) (by kernel_rfl) (fun _ _ _ h => h) (Or.inl ⟨by rfl, fun w => by go_simp⟩) ?_
              simp only [Act.put, List.getElem_toArray, List.getElem_cons_zero, List.getElem_cons_succ, List.setIfInBounds_toArray, List.set_cons_zero, List.set_cons_succ]
              refine wpAny_ready (rs := [0]) (by kernel_rfl) (by simp) ?_
              refine AllReady.cons rfl (fun K hK => ?_) AllReady.nil
              refine step_ldm _ rfl _ _ rfl g8 0 rfl (U (eat T k)).toList hB8.out.range _ Tryd.underlying113 rfl (by rw [hU8.out]; exact size_w8) ?_
              refine hK _ _ ?_
              clear hK K
              simp only [Act.put, List.getElem_toArray, List.getElem_cons_zero, List.setIfInBounds_toArray, List.set_cons_zero, List.set_cons_succ]
              refine wpAny_ready (rs := [6]) (by kernel_rfl) (by simp) ?_
              refine AllReady.cons rfl (fun K hK => ?_) AllReady.nil
              go_simp
              have hlT : ((T.drop ii).take 64).length = 64 := by
                have := HLL.out
                have := HEE.out
                rw [List.length_take, List.length_drop]
                omega
              refine (refStep_any gl ii (c' - ii) (eat T k) ((T.drop ii).take 64) w10.drew (eat_length _ _) ((HTB.out.drop _).take _) ?hc).mono ?_
              case hc =>
                intro i hi
                have h1 := hCL.out (ii + i) (by have := HEE.out; omega)
                have h2 : ((T.drop ii).take 64).getD i 0 = T.getD (ii + i) 0 := by
                  simp [List.getD, hi, List.getElem?_drop]
                rw [h2]
                exact h1
              rintro ee w11 ⟨rfl, b11⟩
              have hb11 : Below w10.heap.size w10 w11 := grow_trans (Below.refl _ _).drew b11
              refine hK _ _ ?_
              clear hK K
              refine wpAny_ready (rs := [7]) (by kernel_rfl) (by simp) ?_
              refine AllReady.cons rfl (fun K hK => ?_) AllReady.nil
              have B11 := hB8.out.grow hb11
              have hl8 : (stp (eat T k) ((T.drop ii).take 64)).length = 8 := stp_length _ _ (eat_length _ _)
              have hz8 : (U (stp (eat T k) ((T.drop ii).take 64))).size = 8 := by rw [U_size]; exact hl8
              refine step_stm _ rfl _ _ _ rfl g8 0 (U (stp (eat T k) ((T.drop ii).take 64))) rfl rfl (by
                rw [hz8]
                intro j hj
                rw [Nat.zero_add]
                exact ⟨by rw [B11.wcell j (by rw [eat_length]; exact hj)]; rfl, B11.frozen j⟩) (by rw [hz8]; exact size_w8) (U_one _) ?_
              refine hK _ _ ?_
              clear hK K
              refine wpAny_done (by kernel_rfl) ?_ _
              simp only [Act.put, List.getElem_toArray, List.getElem_cons_zero, List.getElem_cons_succ]
              have G12 := grown_setCells g8 (U (stp (eat T k) ((T.drop ii).take 64))).toList 0 w11
              have B12 : Blk (w11.setCells g8 0 (U (stp (eat T k) ((T.drop ii).take 64))).toList) g8 113 (U (eat T (k + 1))) := by
                have h1 := B11.cells (U (stp (eat T k) ((T.drop ii).take 64))).toList 0 (by rw [U_size, eat_length, U_toList, List.length_map]; omega)
                have h2 := whole_over (U (eat T k)).toList (U (stp (eat T k) ((T.drop ii).take 64))).toList (by rw [U_toList, U_toList, List.length_map, List.length_map, eat_length, hl8])
                have h3 : (U (stp (eat T k) ((T.drop ii).take 64))).toList.toArray = U (eat T (k + 1)) := by
                  rw [eat, ← hii.out]
                rw [h3] at h2
                rw [h2] at h1
                exact h1
              have B1' := (hB1.out.grow hb11).kept G12 n81
              have C12 : Hid (∀ i, i < L → (w11.setCells g8 0 (U (stp (eat T k) ((T.drop ii).take 64))).toList).cell? ⟨gl, i, none⟩ = some (.int .u8 (T.getD i 0))) := by
                intro i hi
                have h2 := below_cell hb11 (hCL.out i hi)
                have h3 := G12.block gl (block_lt_of_cell h2) (fun e => n8l (by injection e))
                rw [← h2]
                unfold World.cell?
                simp only [h3]
              have hb12 := below_row (hbl.out.trans (hb11.mono hbl.out.size)) G12 m8
              clear B11 hl8 hz8 G12 hb11 b11
              generalize w11.setCells g8 0 (U (stp (eat T k) ((T.drop ii).take 64))).toList = w12 at *
              go_wp2
              exact ⟨⟨k + 1, e, by show _ = _; have := hii.out; have := HEE.out; omega, heL, rfl, B12, B1', C12, hb12⟩, by have := HEE.out; simp [intOf]; omega⟩
            · have hiL2 : ii = L := by omega
              have HB8 : Hid (Blk w10 g8 113 (U (eat T (L / 64)))) := by
                have hk : k = L / 64 := by have := hii.out; omega
                rw [← hk]
                exact hB8
              have hW8 : (eat T (L / 64)).length = 8 := eat_length _ _
              generalize eat T (L / 64) = W at *
              have HW8 := hidden hW8
              have j1 : ¬ ((ii : Int) < (L : Int)) := by omega
              clear hW8 hB8 hCL hlt
              have m1 : w.heap.size ≤ g1 := hg1
              go_wp2_with (first | (refine wpList_al _ rfl _ rfl _ zero_b32' ?_; intro w13 g13 hg13 hl13 B13 b13))
              have n138 : g8 ≠ g13 := by have := HB8.out.lt; omega
              have n131 : g1 ≠ g13 := by have := hB1.out.lt; omega
              have HB8' := hidden (HB8.out.grow b13)
              have HB1' := hidden (hB1.out.grow b13)
              have HB13 : Hid (Blk w13 g13 22 (B ((out W).take 0 ++ List.replicate (32 - 0) 0))) := B13
              have hb13 := hidden (hbl.out.trans (b13.mono hbl.out.size))
              have m13 : w.heap.size ≤ g13 := by have := hbl.out.size; omega
              clear HB8 hB1 B13 b13 hg13 hl13 hbl
              go_loopw [9] (fun i wr => ∃ k : Nat, k ≤ 32 ∧ i = .int .i64 k ∧ Hid (Blk wr g8 113 (U W)) ∧ Hid (Blk wr g1 22 (B (List.replicate 32 0))) ∧ Hid (Blk wr g13 22 (B ((out W).take k ++ List.replicate (32 - k) 0))) ∧ Hid (Below w.heap.size w wr)) (fun i _ => 32 - (intOf i).toNat)
              case atStart => exact ⟨0, by omega, rfl, HB8', HB1', HB13, hb13⟩
              case round =>
                clear HB8' HB1' HB13 hb13
                obtain ⟨k, hk, rfl, hB8, hB1, hB13, hbl⟩ := hrel
                obtain ⟨w14, rfl⟩ : ∃ x, x = wr := ⟨_, rfl⟩
                have k0 : (0 : Int) ≤ (k : Int) := by omega
                by_cases hlt : k < 32
                · obtain ⟨d, hd⟩ : ∃ d : Nat, (k : Int) / 4 = (d : Int) := ⟨k / 4, by omega⟩
                  obtain ⟨r, hr⟩ : ∃ r : Nat, (k : Int) % 4 = (r : Int) := ⟨k % 4, by omega⟩
                  obtain ⟨r8, hr8⟩ : ∃ r8 : Nat, 8 * (r : Int) = (r8 : Int) := ⟨8 * r, by omega⟩
                  obtain ⟨sh, hsh⟩ : ∃ sh : Nat, 24 - (r8 : Int) = (sh : Int) := ⟨24 - r8, by omega⟩
                  have HD : Hid (d = k / 4 ∧ sh = 24 - 8 * (k % 4)) := by
                    constructor <;> omega
                  have rr8 : IntKind.i64.wrap (r8 : Int) = (r8 : Int) := by rw [IntKind.wrap_i64]; omega
                  have rsh : IntKind.i64.wrap (sh : Int) = (sh : Int) := by rw [IntKind.wrap_i64]; omega
                  have k1 : (k : Int) < 32 := by omega
                  have d0 : (0 : Int) ≤ (d : Int) := by omega
                  have d1 : (d : Int) < 8 := by omega
                  have sh0 : (0 : Int) ≤ (sh : Int) := by omega
                  have sh1 : (sh : Int) ≤ 24 := by omega
                  have cw := hB8.out.wcell d (by have := HW8.out; omega)
                  have hol : (out W).length = 32 := by rw [out_length, HW8.out]
                  have cb := hB13.out.bcell k (by simp [hol]; omega)
                  have cf := hB13.out.frozen k
                  have HG : Hid ((out W).getD k 0 = W.getD d 0 / 2 ^ sh % 256) := by
                    have := HD.out
                    rw [this.1, this.2]
                    exact out_get W k (by have := HW8.out; omega)
                  have HTS := hidden (take_set_next (out W) k (32 - (k + 1)) (by omega))
                  generalize ((out W).take k ++ List.replicate (32 - k) 0).getD k 0 = old at cb
                  generalize W.getD d 0 = x at *
                  clear hol
                  go_wp2_with fail
                  have hn : Blk (w14.setCell ⟨g13, k, none⟩ (.int .u8 (x / 2 ^ sh % 256))) g13 22 (B ((out W).take (k + 1) ++ List.replicate (32 - (k + 1)) 0)) := by
                    have h := hB13.out.set k (.int .u8 (x / 2 ^ sh % 256))
                    have e1 := HTS.out
                    rw [show 32 - (k + 1) + 1 = 32 - k by omega, HG.out] at e1
                    rw [B_set, e1] at h
                    exact h
                  exact ⟨⟨k + 1, by omega, by go_num, hB8.out.other _ _ n138, hB1.out.other _ _ n131, hn, setCell_below _ _ hbl.out m13⟩, by simp [intOf]; omega⟩
                · obtain rfl : k = 32 := by omega
                  have HF : Hid (Blk w14 g13 22 (B (out W))) := by
                    have : Blk w14 g13 22 (B ((out W).take 32 ++ List.replicate (32 - 32) 0)) := hB13.out
                    rw [List.take_of_length_le (by rw [out_length, HW8.out]; omega), show 32 - 32 = 0 from rfl, List.replicate_zero, List.append_nil] at this
                    exact this
                  have HSZ : Hid ((B (out W)).size = 32) := by rw [B_size, out_length, HW8.out]; exact rfl
                  go_wp2_with (first | (refine wpList_ld _ rfl _ _ rfl g13 _ rfl HF.out 32 _ Tryd.underlying22 (by rw [HSZ.out]; exact size_b32) ?_) | (refine wpList_sto _ rfl _ _ _ rfl g1 _ _ rfl rfl hB1.out (by rw [HSZ.out]; exact size_b32) (by rw [HSZ.out, B_size]; simp) (B_one _) ?_; intro wZ BZ gZ))
                  exact bodyPost_ret (v := .agg (B (out W))) (results_cell_row rfl _ _ g1 _ _ _ _ rfl BZ Tryd.underlying22 rfl (by rw [HSZ.out]; exact size_b32)) rfl ⟨by rw [HDG.out], below_row hbl.out gZ m1⟩

end Go.Proofs.YtpihigcnoifcfaaDoor
