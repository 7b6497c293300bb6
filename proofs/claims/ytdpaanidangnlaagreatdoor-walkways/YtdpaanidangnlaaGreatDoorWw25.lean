/- Texts that were just made: where they lie; lists of such texts. -/
import Derived.Test.YtdpaanidangnlaaGreatDoorWw16
import Derived.Test.YtdpaanidangnlaaGreatDoorWw24
import Derived.Test.YtdpaanidangnlaaGreatDoorWw17
import Derived.Laws.Cover3
namespace Go.Proofs.YtdpaanidangnlaaGreatDoor
set_option maxRecDepth 20000
open Go.RowKit

/-- What a call leaves that tells a new text of n bytes. -/
def TxtPost (zs : List Int) (n : Nat) (w : World) (e : Ending) (w' : World) : Prop :=
  ∃ g c sp, e = .returned (.slice (some ⟨g, 0, none⟩) n c) ∧ w.heap.size ≤ g ∧ g < w'.heap.size ∧ Own w.heap.size w' (.slice (some ⟨g, 0, none⟩) n c) zs sp ∧ Below w.heap.size w w'

theorem txt_of_join {zs : List Int} {n : Nat} {w : World} {e : Ending} {w' : World} (hn : zs.length = n) (hp : 0 < n) (h : JoinPost zs w e w') : TxtPost zs n w e w' := by
  obtain ⟨v, sp, rfl, hO, hb⟩ := h
  subst hn
  have hl := hO.lt
  obtain ⟨h1, h2, h3, h4⟩ := hO
  rcases h4 with ⟨_, rfl, _⟩ | ⟨g, rest, hg, rfl, h5⟩
  · simp at hp
  · exact ⟨g, _, sp, rfl, hg, (hl g rfl).2, ⟨h1, h2, h3, .inr ⟨g, rest, hg, rfl, h5⟩⟩, hb⟩

theorem refLeafText_new (K A : List Int) (w : World) (hk : K.length = 32) (ha : A.length = 32) (bk : Bytes K) (ba : Bytes A) : Calls Tryz.prog 161 #[.agg (B K), .agg (B A)] w (TxtPost (1 :: (K ++ A)) 65 w) :=
  (refLeafText_any K A w hk ha bk ba).mono fun _ _ h => txt_of_join (by simp [hk, ha]) (by omega) h

theorem refInnerText_new (K A : List Int) (w : World) (hk : K.length = 32) (ha : A.length = 32) (bk : Bytes K) (ba : Bytes A) : Calls Tryz.prog 162 #[.agg (B K), .agg (B A)] w (TxtPost (2 :: (K ++ A)) 65 w) :=
  (refInnerText_any K A w hk ha bk ba).mono fun _ _ h => txt_of_join (by simp [hk, ha]) (by omega) h

theorem refText_new (t : Int) (v : Value) (ps : List (List Int)) (n : Nat) (w : World) (h0 : 0 ≤ t) (h1 : t ≤ 255) (h : Parts w v ps) (hl : 1 + ps.flatten.length ≤ 140737488355328) (hn : ps.flatten.length + 1 = n) :
    Calls Tryz.prog 160 #[.int .u8 t, v] w (TxtPost (t :: ps.flatten) n w) := (refText_any t v ps w h0 h1 h hl).mono fun _ _ h => txt_of_join hn (by omega) h

theorem refText_one (v : Value) (zs : List Int) (w : World) (h : Parts w v [zs]) (hl : zs.length < 140737488355328) : Calls Tryz.prog 160 #[.int .u8 3, v] w (TxtPost (3 :: zs) (zs.length + 1) w) := by
  have h1 := refText_new 3 v [zs] (zs.length + 1) w (by omega) (by omega) h (by simp; omega) (by simp)
  rw [show [zs].flatten = zs by simp] at h1
  exact h1

theorem refText_nil (w : World) : Calls Tryz.prog 160 #[.int .u8 0, .slice none 0 0] w (TxtPost [0] 1 w) := refText_new 0 _ [] 1 w (by omega) (by omega) (parts_nil w) (by simp) rfl

theorem Parts.grow {w w' : World} {v : Value} {ps : List (List Int)} (h : Parts w v ps) (hb : Below w.heap.size w w') : Parts w' v ps := by
  obtain ⟨a, cap, V, rfl, h1, h2, h3, h4⟩ := h
  refine ⟨a, cap, V, rfl, h1, h2, fun hp => ?_, fun i hi => (h4 i hi).grow hb⟩
  obtain ⟨b, off, e, hc⟩ := h3 hp
  exact ⟨b, off, e, fun i hi => (hb.cell (p := ⟨b, off + i, none⟩) (block_lt_of_cell (hc i hi))).trans (hc i hi)⟩

/-- A new list of values that read as these bytes. -/
theorem parts_new (w : World) (vs : List Value) (ps : List (List Int)) (n : Nat) (hn : ps.length = n) (hv : vs.length = n) (hp : n ≤ 140737488355328) (h : ∀ i, i < n → Reads w (vs.getD i undef) (ps.getD i [])) :
    Parts (w.alloc (.cells vs.toArray 32)) (.slice (some ⟨w.heap.size, 0, none⟩) n n) ps := by
  subst hn
  refine ⟨_, ps.length, fun i => vs.getD i undef, rfl, Nat.le_refl _, hp, fun _ => ⟨w.heap.size, 0, rfl, fun i hi => ?_⟩, fun i hi => (h i hi).grow (grow_alloc w _)⟩
  have hr : (w.alloc (.cells vs.toArray 32)).heap[w.heap.size]? = some (.cells vs.toArray 32 (0, 0)) := heap_alloc_new w _
  rw [cell_of_row _ _ _ _ _ _ hr]
  simp [List.getD, hv, hi]

end Go.Proofs.YtdpaanidangnlaaGreatDoor

/- node.Encode, node.Digest, as contracts. -/
namespace Go.Proofs.YtdpaanidangnlaaGreatDoor
set_option maxRecDepth 20000
open Go.RowKit

/-- What a walk asks of a node in a block. -/
structure NdF (N : List Int) (k : Int) (a b c d : List Int) : Prop where
  kd : ∀ w g t, Blk w g t (B N) → w.cell? ⟨g, 0, none⟩ = some (.int .u8 k)
  sa : Seg N 1 a
  sb : Seg N 33 b
  sc : Seg N 65 c
  sd : Seg N 97 d
  la : (Tryz.prog.info? 31).map (·.size) = some a.length
  lb : (Tryz.prog.info? 43).map (·.size) = some b.length
  lc : (Tryz.prog.info? 43).map (·.size) = some c.length
  ld : (Tryz.prog.info? 43).map (·.size) = some d.length
  ln : (Tryz.prog.info? 48).map (·.size) = some (B N).size
  ll : (Tryz.prog.info? 48).map (·.size) = some (B N).toList.length

theorem Nd.facts {k : Int} {a b c d : List Int} (h : Nd k a b c d) : NdF (nd k a b c d) k a b c d :=
  ⟨fun _ _ _ q => Nd.kind q, h.segA, h.segB, h.segC, h.segD, by rw [h.la]; exact sz_path, by rw [h.lb]; exact sz_hash, by rw [h.lc]; exact sz_hash, by rw [h.ld]; exact sz_hash, by rw [h.size]; exact size_node, by rw [Array.length_toList, h.size]; exact size_node⟩

/-- A node's text; nothing of one that may not be. -/
def txN (k : Int) (a b c d : List Int) : List Int := if okN k a b c d = true then (if k = 1 then 1 :: (a ++ b) else if k = 2 then 2 :: (c ++ d) else [0]) else []
def dgN (k : Int) (a b c d : List Int) : List Int := if okN k a b c d = true then dig (txN k a b c d) else z32

def EncPost (k : Int) (a b c d : List Int) (w : World) (e : Ending) (w' : World) : Prop :=
  ∃ v sp, e = .returned (.tuple #[v, .int .i64 (okE k a b c d)]) ∧ Own w.heap.size w' v (txN k a b c d) sp ∧ Below w.heap.size w w'
def DigNPost (k : Int) (a b c d : List Int) (w : World) (e : Ending) (w' : World) : Prop :=
  e = .returned (.tuple #[.agg (B (dgN k a b c d)), .int .i64 (okE k a b c d)]) ∧ Below w.heap.size w w'

theorem Own.later {b b' : Nat} {w : World} {v : Value} {zs sp : List Int} (h : Own b w v zs sp) (hb : b' ≤ b) : Own b' w v zs sp := by
  obtain ⟨h1, h2, h3, h4⟩ := h
  refine ⟨h1, h2, h3, ?_⟩
  rcases h4 with h4 | ⟨g, hid, hg, h5⟩
  · exact .inl h4
  · exact .inr ⟨g, hid, Nat.le_trans hb hg, h5⟩

theorem z32_hash : B z32 = B (List.replicate 32 0) := rfl

theorem built_hash : Tryz.prog.built 43 [] = some (B z32) := by kernel_rfl

set_option maxHeartbeats 2000000 in
theorem digest_any (k : Int) (a b c d : List Int) (w : World) (h : Nd k a b c d) (hL : Laid w) : Calls Tryz.prog 51 #[.agg (B (nd k a b c d))] w (DigNPost k a b c d w) := by
  obtain ⟨fs, hu⟩ := u_node
  have HU := hidden hu
  have HL := hidden hL
  have HF := hidden h.facts
  have HC : Hid (∀ w', Calls Tryz.prog 111 #[.agg (B (nd k a b c d))] w' fun e w'' => e = .returned (.int .i64 (okE k a b c d)) ∧ Below w'.heap.size w' w'') := fun w' => check_any k a b c d w' h
  obtain ⟨N, hN⟩ : ∃ N, N = nd k a b c d := ⟨_, rfl⟩
  rw [← hN] at HF HC ⊢
  by_cases hok : okN k a b c d = true
  · have hoE : okE k a b c d = 0 := by rw [okE, if_pos hok]
    rw [hoE] at HC
    obtain ⟨D, hD⟩ : ∃ D, D = dgN k a b c d := ⟨_, rfl⟩
    have HSZ : Hid ((Tryz.prog.info? 43).map (·.size) = some (B D).size) := by show _ = _; rw [B_size, hD, dgN, if_pos hok, dig_length]; exact sz_hash
    have HS2 : Hid ((B (List.replicate 32 0)).size = (B D).size) := by show _ = _; rw [B_size, B_size, hD, dgN, if_pos hok, dig_length]; rfl
    have HX : Hid (∀ w', Below w.heap.size w w' → DigNPost k a b c d w (.returned (.tuple #[.agg (B D), .int .i64 0])) w') := fun w' hb => ⟨by rw [hD, hoE], hb⟩
    by_cases hk1 : k = 1
    · have HT : Hid (∀ w', Laid w' → Calls Tryz.prog 109 #[.agg (B a), .agg (B b)] w' fun e w'' => e = .returned (.agg (B D)) ∧ Below w'.heap.size w' w'') := by
        intro w' hl
        rw [hD, dgN, if_pos hok, txN, if_pos hok, if_pos hk1]
        exact leaf_any a b w' h.la h.lb h.ba h.bb hl
      have q1 : (k == 1) = true := by simp [hk1]
      clear h hu hN hk1 hok hoE hD hL
      go_enter Tryz.func51, Tryz.ntmps51
      go_wp2_with (first
        | ((with_reducible refine at_bx ?_); refine wpList_bx _ rfl _ _ rfl _ rfl ?_; intro w1 g1 hg1 hl1 B1 b1)
        | ((with_reducible refine at_al ?_); refine wpList_al _ rfl _ rfl _ zero_hash ?_; intro w0 g0 hg0 hl0 B0 b0; have B1' := B1.grow b0; have c1 := grow_trans b1 b0)
        | ((with_reducible refine at_ld 1 ?_); refine wpList_lds _ rfl _ _ rfl g1 _ _ rfl B1' HU.out HF.out.ln ?_)
        | (go_at_call 111; refine (HC.out _).mono ?_; rintro e w2 ⟨rfl, b2⟩; have B2 := B1'.grow b2; have ck := HF.out.kd _ _ _ B2; have c2 := grow_trans c1 b2)
        | ((with_reducible refine at_ld 15 ?_); refine wpList_ldm _ rfl _ _ rfl g1 1 _ _ a rfl B2 HF.out.sa _ _ Tryz.underlying31 HF.out.la ?_)
        | ((with_reducible refine at_ld 17 ?_); refine wpList_ldm _ rfl _ _ rfl g1 33 _ _ b rfl B2 HF.out.sb _ _ Tryz.underlying43 HF.out.lb ?_)
        | (go_at_call 109; refine (HT.out _ (HL.out.grow c2)).mono ?_; rintro e w3 ⟨rfl, b3⟩; have B3 := (B0.grow b2).grow b3)
        | ((with_reducible refine at_st 2 ?_); refine wpList_sto _ rfl _ _ _ rfl g0 _ _ rfl rfl B3 HSZ.out HS2.out (B_one _) ?_; intro w4 B4 g4))
      exact bodyPost_ret (v := .tuple #[.agg (B D), .int .i64 0]) (results_row_tmp rfl _ _ g0 _ _ _ _ rfl rfl B4 Tryz.underlying43 HSZ.out) rfl (HX.out _ (below_row (grow_trans c2 b3) g4 (Nat.le_trans b1.size hg0)))
    · have q1 : (k == 1) = false := by simp [hk1]
      by_cases hk2 : k = 2
      · have HT : Hid (∀ w', Laid w' → Calls Tryz.prog 110 #[.agg (B c), .agg (B d)] w' fun e w'' => e = .returned (.agg (B D)) ∧ Below w'.heap.size w' w'') := by
          intro w' hl
          rw [hD, dgN, if_pos hok, txN, if_pos hok, if_neg hk1, if_pos hk2]
          exact inner_any c d w' h.lc h.ld h.bc h.bd hl
        have q2 : (k == 2) = true := by simp [hk2]
        clear h hu hN hk1 hk2 hok hoE hD hL
        go_enter Tryz.func51, Tryz.ntmps51
        go_wp2_with (first
          | ((with_reducible refine at_bx ?_); refine wpList_bx _ rfl _ _ rfl _ rfl ?_; intro w1 g1 hg1 hl1 B1 b1)
          | ((with_reducible refine at_al ?_); refine wpList_al _ rfl _ rfl _ zero_hash ?_; intro w0 g0 hg0 hl0 B0 b0; have B1' := B1.grow b0; have c1 := grow_trans b1 b0)
          | ((with_reducible refine at_ld 1 ?_); refine wpList_lds _ rfl _ _ rfl g1 _ _ rfl B1' HU.out HF.out.ln ?_)
          | (go_at_call 111; refine (HC.out _).mono ?_; rintro e w2 ⟨rfl, b2⟩; have B2 := B1'.grow b2; have ck := HF.out.kd _ _ _ B2; have c2 := grow_trans c1 b2)
          | ((with_reducible refine at_ld 22 ?_); refine wpList_ldm _ rfl _ _ rfl g1 65 _ _ c rfl B2 HF.out.sc _ _ Tryz.underlying43 HF.out.lc ?_)
          | ((with_reducible refine at_ld 24 ?_); refine wpList_ldm _ rfl _ _ rfl g1 97 _ _ d rfl B2 HF.out.sd _ _ Tryz.underlying43 HF.out.ld ?_)
          | (go_at_call 110; refine (HT.out _ (HL.out.grow c2)).mono ?_; rintro e w3 ⟨rfl, b3⟩; have B3 := (B0.grow b2).grow b3)
          | ((with_reducible refine at_st 2 ?_); refine wpList_sto _ rfl _ _ _ rfl g0 _ _ rfl rfl B3 HSZ.out HS2.out (B_one _) ?_; intro w4 B4 g4))
        exact bodyPost_ret (v := .tuple #[.agg (B D), .int .i64 0]) (results_row_tmp rfl _ _ g0 _ _ _ _ rfl rfl B4 Tryz.underlying43 HSZ.out) rfl (HX.out _ (below_row (grow_trans c2 b3) g4 (Nat.le_trans b1.size hg0)))
      · have HT : Hid (∀ w', Laid w' → Calls Tryz.prog 43 #[] w' fun e w'' => e = .returned (.agg (B D)) ∧ Below w'.heap.size w' w'') := by
          intro w' hl
          rw [hD, dgN, if_pos hok, txN, if_pos hok, if_neg hk1, if_neg hk2]
          exact empty_any w' hl
        have q2 : (k == 2) = false := by simp [hk2]
        clear h hu hN hk1 hk2 hok hoE hD hL
        go_enter Tryz.func51, Tryz.ntmps51
        go_wp2_with (first
          | ((with_reducible refine at_bx ?_); refine wpList_bx _ rfl _ _ rfl _ rfl ?_; intro w1 g1 hg1 hl1 B1 b1)
          | ((with_reducible refine at_al ?_); refine wpList_al _ rfl _ rfl _ zero_hash ?_; intro w0 g0 hg0 hl0 B0 b0; have B1' := B1.grow b0; have c1 := grow_trans b1 b0)
          | ((with_reducible refine at_ld 1 ?_); refine wpList_lds _ rfl _ _ rfl g1 _ _ rfl B1' HU.out HF.out.ln ?_)
          | (go_at_call 111; refine (HC.out _).mono ?_; rintro e w2 ⟨rfl, b2⟩; have B2 := B1'.grow b2; have ck := HF.out.kd _ _ _ B2; have c2 := grow_trans c1 b2)
          | (go_at_call 43; refine (HT.out _ (HL.out.grow c2)).mono ?_; rintro e w3 ⟨rfl, b3⟩; have B3 := (B0.grow b2).grow b3)
          | ((with_reducible refine at_st 2 ?_); refine wpList_sto _ rfl _ _ _ rfl g0 _ _ rfl rfl B3 HSZ.out HS2.out (B_one _) ?_; intro w4 B4 g4))
        exact bodyPost_ret (v := .tuple #[.agg (B D), .int .i64 0]) (results_row_tmp rfl _ _ g0 _ _ _ _ rfl rfl B4 Tryz.underlying43 HSZ.out) rfl (HX.out _ (below_row (grow_trans c2 b3) g4 (Nat.le_trans b1.size hg0)))
  · have hoE : okE k a b c d = 2 := by rw [okE, if_neg hok]
    rw [hoE] at HC
    have HX : Hid (∀ w', Below w.heap.size w w' → DigNPost k a b c d w (.returned (.tuple #[.agg (B z32), .int .i64 2])) w') := fun w' hb => ⟨by rw [hoE, dgN, if_neg hok], hb⟩
    clear h hu hN hok hoE hL
    go_enter Tryz.func51, Tryz.ntmps51
    go_wp2_with (first
      | ((with_reducible refine at_bx ?_); refine wpList_bx _ rfl _ _ rfl _ rfl ?_; intro w1 g1 hg1 hl1 B1 b1)
      | ((with_reducible refine at_al ?_); refine wpList_al _ rfl _ rfl _ zero_hash ?_; intro w0 g0 hg0 hl0 B0 b0; have B1' := B1.grow b0; have c1 := grow_trans b1 b0)
      | ((with_reducible refine at_ld 1 ?_); refine wpList_lds _ rfl _ _ rfl g1 _ _ rfl B1' HU.out HF.out.ln ?_)
      | (go_at_call 111; refine (HC.out _).mono ?_; rintro e w2 ⟨rfl, b2⟩; have B2 := B0.grow b2; have c2 := grow_trans c1 b2)
      | ((with_reducible refine at_bd ?_); refine wpList_bld _ rfl _ _ rfl _ built_hash ?_)
      | ((with_reducible refine at_st 2 ?_); refine wpList_sto _ rfl _ _ _ rfl g0 _ (B z32) rfl rfl B2 (by kernel_rfl) rfl (B_one _) ?_; intro w4 B4 g4))
    exact bodyPost_ret (v := .tuple #[.agg (B z32), .int .i64 2]) (results_row_tmp rfl _ _ g0 _ _ _ _ rfl rfl B4 Tryz.underlying43 (by kernel_rfl)) rfl (HX.out _ (below_row c2 g4 (Nat.le_trans b1.size hg0)))

end Go.Proofs.YtdpaanidangnlaaGreatDoor

/- node.is, node.Decode, as contracts. -/
namespace Go.Proofs.YtdpaanidangnlaaGreatDoor
set_option maxRecDepth 20000
open Go.RowKit

/-- What Decode reads: the node, and whether the bytes are a node's. -/
def dcA (zs : List Int) : List Int := (zs.drop 1).take 32
def dcB (zs : List Int) : List Int := zs.drop 33
def dcN (zs : List Int) : List Int := if zs.length = 65 ∧ zs.getD 0 0 = 1 then nd 1 (dcA zs) (dcB zs) z32 z32 else if zs.length = 65 ∧ zs.getD 0 0 = 2 then nd 2 z32 z32 (dcA zs) (dcB zs) else nd 0 z32 z32 z32 z32
def dcE (zs : List Int) : Int := if zs.length = 65 ∧ zs.getD 0 0 = 1 then 0 else if zs.length = 65 ∧ zs.getD 0 0 = 2 then 0 else if zs.length = 1 ∧ zs.getD 0 0 = 0 then 0 else 10

def DecPost (zs : List Int) (w : World) (e : Ending) (w' : World) : Prop := e = .returned (.tuple #[.agg (B (dcN zs)), .int .i64 (dcE zs)]) ∧ Below w.heap.size w w'

/-- A composite literal, in a region that draws its order. -/
theorem exec_bd (o : Oper) (a : Act) (ty : TypeId) (parts : Array (Nat × Operand)) (ho : o.op = .build ty parts) (cs : Array Value) (h : Tryz.prog.built ty (parts.map fun (i, x) => (i, a.eval x)).toList = some cs) (w : World) : (execOp a.eval o).run Tryz.prog w = .ok (.value (.agg cs)) w := by
  unfold execOp
  simp only [ho, Sem.run_bind, run_build w ty _ cs h, Result.andThen_ok, Sem.run_pure]

def isB (zs : List Int) (k n : Int) : Bool := decide ((zs.length : Int) = n ∧ zs.getD 0 0 = k)

theorem range_seg {w : World} {b off : Nat} {zs : List Int} (hc : ∀ i, i < zs.length → w.cell? ⟨b, off + i, none⟩ = some (.int .u8 (zs.getD i 0))) (o : Nat) (xs : List Int) (hs : Seg zs o xs) : w.rangeAt b (off + o) (B xs).toList := by
  intro j v hv
  rw [B_toList] at hv
  have hj : j < xs.length := by have := (List.getElem?_eq_some_iff.1 hv).1; simpa using this
  have h1 := hs j xs[j] (by simp)
  obtain ⟨h2, h3⟩ := List.getElem?_eq_some_iff.1 h1
  rw [Nat.add_assoc, hc (o + j) h2]
  simp only [List.getElem?_map, List.getElem?_eq_getElem hj, Option.map_some, Option.some.injEq] at hv
  rw [← hv]
  simp [List.getD, h2, h3]

theorem dc_segA (zs : List Int) : Seg zs 1 (dcA zs) := fun j v hj => by
  unfold dcA at hj
  rw [List.getElem?_take] at hj
  split at hj
  · rwa [List.getElem?_drop] at hj
  · cases hj
theorem dc_segB (zs : List Int) : Seg zs 33 (dcB zs) := fun j v hj => by
  unfold dcB at hj
  rwa [List.getElem?_drop] at hj
theorem dcA_length (zs : List Int) (h : zs.length = 65) : (dcA zs).length = 32 := by simp [dcA, h]
theorem dcB_length (zs : List Int) (h : zs.length = 65) : (dcB zs).length = 32 := by simp [dcB, h]
theorem dcA_bytes (zs : List Int) (h : Bytes zs) : Bytes (dcA zs) := fun z hz => h z (List.mem_of_mem_drop (List.mem_of_mem_take hz))
theorem dcB_bytes (zs : List Int) (h : Bytes zs) : Bytes (dcB zs) := fun z hz => h z (List.mem_of_mem_drop hz)
theorem dc_nd (zs : List Int) (h : Bytes zs) : ∃ k a b c d, dcN zs = nd k a b c d ∧ Nd k a b c d := by
  unfold dcN
  split
  · rename_i q
    exact ⟨_, _, _, _, _, rfl, by omega, by omega, dcA_length zs q.1, dcB_length zs q.1, rfl, rfl, dcA_bytes zs h, dcB_bytes zs h, z32_bytes, z32_bytes⟩
  · split
    · rename_i q
      exact ⟨_, _, _, _, _, rfl, by omega, by omega, rfl, rfl, dcA_length zs q.1, dcB_length zs q.1, z32_bytes, z32_bytes, dcA_bytes zs h, dcB_bytes zs h⟩
    · exact ⟨_, _, _, _, _, rfl, z_nd⟩

end Go.Proofs.YtdpaanidangnlaaGreatDoor
