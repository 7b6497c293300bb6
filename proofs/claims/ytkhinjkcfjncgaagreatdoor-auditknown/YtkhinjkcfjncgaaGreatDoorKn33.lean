/- slices.Sort at numbers: the contract that the library bears, laid at this program (written by wip/laysi.sh for one seat). -/
import Derived.Shelf.Sort.Plain
import Derived.Ground.NamesProg
import Derived.Test.YtkhinjkcfjncgaaGreatDoorProg
import Derived.Test.YtkhinjkcfjncgaaGreatDoorKn27
import Derived.Shelf.Slices.In.SortNone
import Derived.Sort.OwnSortedInts
import Derived.Test.YtkhinjkcfjncgaaGreatDoorKn08
import Derived.Test.YtkhinjkcfjncgaaGreatDoorKn23
namespace Go.Proofs.YtkhinjkcfjncgaaGreatDoor
set_option maxRecDepth 20000
open Go.Shelf
def sortI_ren : Go.Shelf.Ren := ⟨fun | 189 => 38 | 125 => 78 | 257 => 77 | 128 => 134 | 129 => 135 | 294 => 125 | 295 => 126 | 296 => 127 | 297 => 128 | 298 => 129 | 299 => 130 | 216 => 131 | 300 => 132 | 301 => 133 | 328 => 172 | 329 => 173 | 330 => 174 | 331 => 175 | 332 => 176 | 215 => 177 | 343 => 202 | n => n, fun | 28 => 23 | 3 => 3 | 46 => 134 | 0 => 0 | 51 => 179 | 53 => 181 | 4 => 4 | 183 => 171 | 182 => 170 | 131 => 176 | 5 => 5 | 9 => 9 | 218 => 219 | 222 => 223 | 228 => 248 | 229 => 89 | n => n, fun | n => n⟩
theorem sortI : Go.Proofs.Lays.n189 Tryz.prog sortI_ren := {
  mixed := by kernel_rfl
  f125 := Tryz.func78.trans (congrArg some (by kernel_rfl))
  f128 := Tryz.func134.trans (congrArg some (by kernel_rfl))
  f129 := Tryz.func135.trans (congrArg some (by kernel_rfl))
  f189 := Tryz.func38.trans (congrArg some (by kernel_rfl))
  f215 := Tryz.func177.trans (congrArg some (by kernel_rfl))
  f216 := Tryz.func131.trans (congrArg some (by kernel_rfl))
  f257 := Tryz.func77.trans (congrArg some (by kernel_rfl))
  f294 := Tryz.func125.trans (congrArg some (by kernel_rfl))
  f295 := Tryz.func126.trans (congrArg some (by kernel_rfl))
  f296 := Tryz.func127.trans (congrArg some (by kernel_rfl))
  f297 := Tryz.func128.trans (congrArg some (by kernel_rfl))
  f298 := Tryz.func129.trans (congrArg some (by kernel_rfl))
  f299 := Tryz.func130.trans (congrArg some (by kernel_rfl))
  f300 := Tryz.func132.trans (congrArg some (by kernel_rfl))
  f301 := Tryz.func133.trans (congrArg some (by kernel_rfl))
  f328 := Tryz.func172.trans (congrArg some (by kernel_rfl))
  f329 := Tryz.func173.trans (congrArg some (by kernel_rfl))
  f330 := Tryz.func174.trans (congrArg some (by kernel_rfl))
  f331 := Tryz.func175.trans (congrArg some (by kernel_rfl))
  f332 := Tryz.func176.trans (congrArg some (by kernel_rfl))
  f343 := Tryz.func202.trans (congrArg some (by kernel_rfl))
  t0 := Tryz.underlying0
  a0 := Tryz.isAgg0
  z0 := Tryz.sizeOf0
  v0 := Tryz.zeroValue0
  t3 := Tryz.underlying3
  a3 := Tryz.isAgg3
  z3 := Tryz.sizeOf3
  v3 := Tryz.zeroValue3
  t4 := Tryz.underlying4
  a4 := Tryz.isAgg4
  z4 := Tryz.sizeOf4
  v4 := Tryz.zeroValue4
  t5 := Tryz.underlying5
  a5 := Tryz.isAgg5
  z5 := Tryz.sizeOf5
  v5 := Tryz.zeroValue5
  t9 := Tryz.underlying9
  a9 := Tryz.isAgg9
  z9 := Tryz.sizeOf9
  v9 := Tryz.zeroValue9
  t28 := Tryz.underlying23
  a28 := Tryz.isAgg23
  z28 := Tryz.sizeOf23
  v28 := Tryz.zeroValue23
  t46 := Tryz.underlying134
  a46 := Tryz.isAgg134
  z46 := Tryz.sizeOf134
  v46 := Tryz.zeroValue134
  t51 := Tryz.underlying179
  a51 := Tryz.isAgg179
  z51 := Tryz.sizeOf179
  v51 := Tryz.zeroValue179
  t53 := Tryz.underlying181
  a53 := Tryz.isAgg181
  z53 := Tryz.sizeOf181
  v53 := Tryz.zeroValue181
  t131 := Tryz.underlying176
  a131 := Tryz.isAgg176
  z131 := Tryz.sizeOf176
  v131 := Tryz.zeroValue176
  t182 := Tryz.underlying170
  a182 := Tryz.isAgg170
  z182 := Tryz.sizeOf170
  v182 := Tryz.zeroValue170
  t183 := Tryz.underlying171
  a183 := Tryz.isAgg171
  z183 := Tryz.sizeOf171
  v183 := Tryz.zeroValue171
  t218 := Tryz.underlying219
  a218 := Tryz.isAgg219
  z218 := Tryz.sizeOf219
  v218 := Tryz.zeroValue219
  t222 := Tryz.underlying223
  a222 := Tryz.isAgg223
  z222 := Tryz.sizeOf223
  v222 := Tryz.zeroValue223
  t228 := Tryz.underlying248
  a228 := Tryz.isAgg248
  z228 := Tryz.sizeOf248
  v228 := Tryz.zeroValue248
  t229 := Tryz.underlying89
  a229 := Tryz.isAgg89
  z229 := Tryz.sizeOf89
  v229 := Tryz.zeroValue89 }

end Go.Proofs.YtkhinjkcfjncgaaGreatDoor

/- audit.Reached, as a contract: what is reached, sorted by the library. -/
namespace Go.Proofs.YtkhinjkcfjncgaaGreatDoor
set_option maxRecDepth 20000
open Go.RowKit

def srtI (l : List Nat) : List Int := (zN l).mergeSort fun x y => decide (x ≤ y)
theorem srtI_length (l : List Nat) : (srtI l).length = l.length := by rw [srtI, List.length_mergeSort, zN_length]
theorem nats_zN (l : List Nat) : nats l = (zN l).map (Value.int .i64) := by simp [nats, zN]

/-- A list of the call's own, sorted in its place. -/
theorem sortI_any {w : World} {m : Nat} {v : Value} {l : List Nat} (h : w.ownsRow m 3 1 v l.length (nats l)) (hl : l.length ≤ 140737488355328) : Calls Tryz.prog 38 #[v] w fun e w' => e = .returned (.tuple #[]) ∧ w'.ownsRow m 3 1 v l.length ((srtI l).map (Value.int .i64)) ∧ w.grownBy w' v.ownBlock := by
  rcases h.2 with ⟨rfl, h0⟩ | ⟨g, cap, cur, rfl, hb, hgg, h1, h2, h3, h4⟩
  · obtain rfl : l = [] := List.eq_nil_of_length_eq_zero h0
    refine (Any.slices_Sort_int_none sortI none 0 w).mono ?_
    rintro e w' ⟨rfl, rfl⟩
    exact ⟨rfl, by rw [show srtI [] = [] by simp [srtI, zN]]; exact World.ownsRow_nil _ _ _ _, World.grownBy.refl _ _⟩
  · have hH : Go.Sort.Holds (Value.int .i64) w g 0 (zN l).toArray := holds_of_blockI hgg (by rw [zN_length, ← nats_zN]; simpa using h4)
    have := Any.slices_Sort_int sortI g 0 cap (zN l) w hH (Array.getElem?_eq_some_iff.1 hgg).1 (by rw [zN_length]; omega)
    rw [zN_length] at this
    refine this.mono ?_
    rintro e w' ⟨rfl, n, os, rfl⟩
    have q := ownsRow_sortedI (n := n) (os := os) (ss := zN l) (ts := srtI l) (by rw [srtI_length, zN_length]) hb hgg (by rw [zN_length]; exact h1) h2 h3
    rw [zN_length] at q
    exact ⟨rfl, q, grownBy_sortedI _⟩

def RePost (cs : List (Nat × Ce)) (R : List Nat) (w : World) (e : Ending) (w' : World) : Prop := ∃ P a c, e = .returned (.tuple #[.slice a (rch P).length c, .int .i64 0]) ∧ RdA cs R P ∧ w'.ownsRow w.heap.size 3 1 (.slice a (rch P).length c) (rch P).length ((srtI (rch P)).map (Value.int .i64)) ∧ Below w.heap.size w w'

set_option maxHeartbeats 2000000 in
theorem rea_any {w : World} {v : Value} {cs : List (Nat × Ce)} (A : Au w v cs) {R : List Nat} (hR : Rts cs R) {rv : Value} (hz : Zs w rv (zN R)) : Calls Tryz.prog 14 #[v, rv] w (RePost cs R w) := by
  have HL := hidden (look_any A.vw A.wf A.le rv R hz hR.ok hR.lv)
  have HLL : Hid (∀ P, RdA cs R P → (rch P).length ≤ 65537) := fun P h => by
    have h1 := rch_len A.wf hR.lv h.rc
    have h2 := A.le
    omega
  have HPost : Hid (∀ P a c w', RdA cs R P → w'.ownsRow w.heap.size 3 1 (.slice a (rch P).length c) (rch P).length ((srtI (rch P)).map (Value.int .i64)) → Below w.heap.size w w' → RePost cs R w (.returned (.tuple #[.slice a (rch P).length c, .int .i64 0])) w') := fun P a c w' q1 q2 q3 => ⟨P, a, c, rfl, q1, q2, q3⟩
  generalize HE : RePost cs R w = Post at HPost ⊢
  clear A hR hz HE
  go_enter Tryz.func14, Tryz.ntmps14
  go_wp2_with (first
    | (go_at_call 32; refine HL.out.mono ?_; rintro e w1 ⟨P, slv, bm, n, rfl, r1, o1, m1, l1, b1⟩; have HRD := hidden r1; have HO1 := hidden o1; have HB1 := hidden b1; obtain ⟨sa, sc, esl⟩ := lst_slice (owR_lst o1); subst esl; clear r1 o1 m1 b1 l1)
    | ((with_reducible refine at_ald 6 ?_); refine wpList_al _ rfl _ rfl _ zero_sv ?_; intro w2 b6 hg1 hl1 B2 q2; have HB2 := hidden B2; have HQ2 := hidden q2; have HG2 := hidden hg1; clear hg1 hl1 B2 q2)
    | ((with_reducible refine at_st 6 ?_); refine wpList_sto _ rfl _ _ _ rfl b6 _ #[.slice sa (rch P).length sc, .map (some bm)] rfl rfl HB2.out size_sv rfl (by simp [Value.oneCell']) ?_; intro w3 B3 g3; have HB3 := hidden B3; have HQ3 := hidden (below_row HQ2.out g3 HG2.out); have c0 := B3.cell 0; simp only [List.getElem?_toArray, List.getElem?_cons_zero] at c0; have HSI := hidden (sortI_any (owR_grow HO1.out HQ3.out) (by have := HLL.out P HRD.out; omega)); clear B3 g3)
    | (go_at_call 38; refine HSI.out.mono ?_; rintro e w4 ⟨rfl, o4, g4⟩; have HO4 := hidden o4; have hne : (Value.slice sa (rch P).length sc).ownBlock ≠ some b6 := (lst_blk_ne (owR_lst (owR_grow HO1.out HQ3.out)) HB3.out (by decide)); have c4 := (HB3.out.mod (Mod.of_grown g4 (S := (Value.slice sa (rch P).length sc).ownBlock.toList) (fun k hk => by simp [hk])) (fun q => hne (by simpa using q))).cell 0; simp only [List.getElem?_toArray, List.getElem?_cons_zero] at c4; have HB4 := hidden (owR_below (grow_trans HB1.out HQ3.out) (owR_grow HO1.out HQ3.out) (Nat.le_refl _) g4); clear o4 g4 hne))
  exact HPost.out P sa sc w4 HRD.out HO4.out HB4.out

end Go.Proofs.YtkhinjkcfjncgaaGreatDoor

/- Entries in memory: a slice of pairs, each a key and a value. -/
namespace Go.Proofs.YtkhinjkcfjncgaaGreatDoor
set_option maxRecDepth 20000
open Go.RowKit

def e00 : Ent := ([], [])
def encP (k : List Int) (v : Value) : List Value := k.map (Value.int .u8) ++ [v]
theorem encP_length (k : List Int) (v : Value) (h : k.length = 32) : (encP k v).length = 33 := by simp [encP, h]

/-- A slice of entries; V i is the value of the entry i. -/
def PrAt (w : World) (v : Value) (V : Nat → Value) (es : List Ent) : Prop :=
  ∃ a cap, v = .slice a es.length cap ∧ es.length ≤ cap ∧ (0 < es.length → ∃ g off, a = some ⟨g, off, none⟩ ∧ ∀ i, i < es.length → w.rangeAt g (off + i * 33) (encP (es.getD i e00).1 (V i))) ∧
    ∀ i, i < es.length → Key (es.getD i e00).1 ∧ Reads w (V i) (es.getD i e00).2

theorem rng_grow {w w' : World} {g o : Nat} {cs : List Value} (h : w.rangeAt g o cs) (hb : Below w.heap.size w w') : w'.rangeAt g o cs := fun j v hv => (hb.cell (p := ⟨g, o + j, none⟩) (block_lt_of_cell (h j v hv))).trans (h j v hv)

theorem PrAt.grow {w w' : World} {v : Value} {V : Nat → Value} {es : List Ent} (h : PrAt w v V es) (hb : Below w.heap.size w w') : PrAt w' v V es := by
  obtain ⟨a, cap, e, h1, h2, h3⟩ := h
  refine ⟨a, cap, e, h1, fun hp => ?_, fun i hi => ⟨(h3 i hi).1, (h3 i hi).2.grow hb⟩⟩
  obtain ⟨g, off, ea, hr⟩ := h2 hp
  exact ⟨g, off, ea, fun i hi => rng_grow (hr i hi) hb⟩
theorem PrAt.kp {w : World} {v : Value} {V : Nat → Value} {es : List Ent} (h : PrAt w v V es) : Kp w (fun w' => PrAt w' v V es) := fun _ q => h.grow q
theorem PrAt.keys {w : World} {v : Value} {V : Nat → Value} {es : List Ent} (h : PrAt w v V es) : ∀ e ∈ es, Key e.1 := by
  intro e he
  obtain ⟨_, _, _, _, _, h3⟩ := h
  obtain ⟨i, hi, rfl⟩ := List.mem_iff_getElem.1 he
  have := (h3 i hi).1
  simpa [List.getD, hi] using this

/-- May entries be: the ones ahead have the keys ks. -/
def lsE : List (List Int) → List Ent → Int
  | _, [] => 0
  | ks, e :: r => if 1024 < e.2.length then 4 else if e.1 ∈ ks then 6 else lsE (ks ++ [e.1]) r
def errB (es : List Ent) : Int := if 4096 < es.length then 4 else lsE [] es
theorem lsE_step (ks : List (List Int)) (es : List Ent) (k : Nat) (hk : k < es.length) : lsE ks (es.drop k) = if 1024 < (es.getD k e00).2.length then 4 else if (es.getD k e00).1 ∈ ks then 6 else lsE (ks ++ [(es.getD k e00).1]) (es.drop (k + 1)) := by
  rw [List.drop_eq_getElem_cons hk, lsE]
  simp [List.getD, hk]
theorem keys_take (es : List Ent) (k : Nat) (hk : k < es.length) : (es.take (k + 1)).map (·.1) = (es.take k).map (·.1) ++ [(es.getD k e00).1] := by
  rw [List.take_add_one, List.map_append]
  simp [List.getD, hk]

theorem lsE_ok : ∀ (ks : List (List Int)) (es : List Ent), lsE ks es = 0 → (∀ e ∈ es, e.2.length ≤ 1024) ∧ Apart1 es ∧ ∀ e ∈ es, e.1 ∉ ks
  | ks, [], _ => ⟨by simp, List.Pairwise.nil, by simp⟩
  | ks, e :: r, h => by
    rw [lsE] at h
    split at h
    · omega
    · rename_i h1
      split at h
      · omega
      · rename_i h2
        obtain ⟨a, b, c⟩ := lsE_ok _ r h
        refine ⟨fun x hx => ?_, List.pairwise_cons.2 ⟨fun x hx e1 => ?_, b⟩, fun x hx => ?_⟩
        · rcases List.mem_cons.1 hx with rfl | hx
          · omega
          · exact a x hx
        · exact c x hx (by simp [e1])
        · rcases List.mem_cons.1 hx with rfl | hx
          · exact h2
          · exact fun hm => c x hx (by simp [hm])
theorem lsE_of : ∀ (ks : List (List Int)) (es : List Ent), (∀ e ∈ es, e.2.length ≤ 1024) → Apart1 es → (∀ e ∈ es, e.1 ∉ ks) → lsE ks es = 0
  | ks, [], _, _, _ => rfl
  | ks, e :: r, h1, h2, h3 => by
    have a := h1 e (by simp)
    rw [lsE, if_neg (by omega), if_neg (h3 e (by simp))]
    refine lsE_of _ r (fun x hx => h1 x (by simp [hx])) (List.pairwise_cons.1 h2).2 (fun x hx hm => ?_)
    rcases List.mem_append.1 hm with hm | hm
    · exact h3 x (by simp [hx]) hm
    · have : x.1 = e.1 := by simpa using hm
      exact (List.pairwise_cons.1 h2).1 x hx this.symm
theorem lsE_cases : ∀ (ks : List (List Int)) (es : List Ent), lsE ks es = 0 ∨ lsE ks es = 4 ∨ lsE ks es = 6
  | _, [] => .inl rfl
  | ks, e :: r => by
    rw [lsE]
    split
    · exact .inr (.inl rfl)
    · split
      · exact .inr (.inr rfl)
      · exact lsE_cases _ r

theorem size_pair : (Tryz.prog.info? 128).map (·.size) = some 33 := by kernel_rfl

theorem u_pair : ∃ fs, Tryz.prog.underlying 128 = some (.struct fs) := ⟨_, Tryz.underlying128⟩

theorem zero_pair : ∀ w, (zeroValue 128).run Tryz.prog w = .ok (.agg (encP z32 (.slice none 0 0)).toArray) w := zero_of_info (n := 33) (by kernel_rfl) |>.1

theorem encP_one (k : List Int) (a : Option Addr) (l c : Nat) : (encP k (.slice a l c)).toArray.all (·.oneCell') = true := all_oneCell_toArray (fun v hv => by
  unfold encP at hv
  rcases List.mem_append.1 hv with hv | hv
  · obtain ⟨z, _, rfl⟩ := List.mem_map.1 hv
    rfl
  · obtain rfl : v = .slice a l c := by simpa using hv
    rfl)

/-- A pair in a block of its own: its key, its value. -/
theorem pair_key {w : World} {g : Nat} {t : TypeId} {k : List Int} {v : Value} (h : Blk w g t (encP k v).toArray) : w.rangeAt g 0 (B k).toList := by
  intro j u hu
  rw [B_toList] at hu
  have hj : j < (k.map (Value.int .u8)).length := (List.getElem?_eq_some_iff.1 hu).1
  rw [Nat.zero_add, h.cell]
  simp only [encP, List.getElem?_toArray]
  rw [List.getElem?_append_left hj]
  exact hu
theorem pair_val {w : World} {g : Nat} {t : TypeId} {k : List Int} {v : Value} (h : Blk w g t (encP k v).toArray) (hk : k.length = 32) : w.cell? ⟨g, 32, none⟩ = some v := by
  rw [h.cell]
  simp only [encP, List.getElem?_toArray]
  rw [List.getElem?_append_right (by simp [hk])]
  simp [hk]

/-- load of a pair out of a slice. -/
theorem wpList_ldp {ops : Array Oper} {rest : List Oper} {op : Oper} {a : Act} {Q : Exit → Act → World → Prop} (w : World) (hgd : op.guard = none) (x : Operand) (ho : op.op = .load 128 x)
    (g o : Nat) (k : List Int) (v : Value) (hx : a.eval x = .pointer (some ⟨g, o, none⟩)) (h : w.rangeAt g o (encP k v)) (hl : k.length = 32)
    (hk : wpList Tryz.prog ops Q rest (a.put op.dst (.agg (encP k v).toArray)) w) : wpList Tryz.prog ops Q (op :: rest) a w := by
  obtain ⟨fs, hu⟩ := u_pair
  exact wpList_load_mid hgd 128 x ho g o hx (encP k v) _ h hu rfl (by rw [encP_length k v hl]; exact size_pair) hk

/-- load of a key at the front of a block. -/
theorem wpList_ldk {ops : Array Oper} {rest : List Oper} {op : Oper} {a : Act} {Q : Exit → Act → World → Prop} (w : World) (hgd : op.guard = none) (x : Operand) (ho : op.op = .load 72 x)
    (g o : Nat) (k : List Int) (hx : a.eval x = .pointer (some ⟨g, o, none⟩)) (h : w.rangeAt g o (B k).toList) (hl : k.length = 32)
    (hk : wpList Tryz.prog ops Q rest (a.put op.dst (.agg (B k))) w) : wpList Tryz.prog ops Q (op :: rest) a w :=
  wpList_load_mid hgd 72 x ho g o hx (B k).toList _ h Tryz.underlying72 rfl (by rw [B_toList, List.length_map, hl]; exact sz_path) (by simpa using hk)

end Go.Proofs.YtkhinjkcfjncgaaGreatDoor
