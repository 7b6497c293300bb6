/- versions' Roots, as a contract: the roots, in the order of the names. -/
import Derived.Test.YtlhnodinhmdjnaaGreatDoorVt36
namespace Go.Proofs.YtlhnodinhmdjnaaGreatDoor
set_option maxRecDepth 20000
open Go.RowKit

/-- A name's number. -/
def rtOf (ms : Nms) (x : List UInt8) : Nat := ((ms.find? (fun p => p.1 == x)).map (·.2)).getD 0
theorem rtOf_mem {ms : Nms} {x : List UInt8} (h : x ∈ ms.map (·.1)) : (x, rtOf ms x) ∈ ms := by
  obtain ⟨p, hp, e⟩ := List.mem_map.1 h
  cases hf : ms.find? (fun p => p.1 == x) with
  | none =>
    have := List.find?_eq_none.1 hf p hp
    simp [e] at this
  | some q =>
    have h1 := List.mem_of_find?_eq_some hf
    have h2 := List.find?_some hf
    rw [rtOf, hf]
    have : q.1 = x := by simpa using h2
    rw [← this]
    exact h1
theorem nmSort_mem {ms : Nms} {x : List UInt8} : x ∈ nmSort ms ↔ x ∈ ms.map (·.1) := (List.mergeSort_perm _ _).mem_iff
theorem nmSort_len (ms : Nms) : (nmSort ms).length = ms.length := by rw [nmSort, List.length_mergeSort, List.length_map]
/-- The numbers in the order of the names. -/
def nmRoots (ms : Nms) (k : Nat) : List Nat := ((nmSort ms).take k).map (rtOf ms)
theorem nmRoots_len {ms : Nms} {k : Nat} (h : k ≤ ms.length) : (nmRoots ms k).length = k := by rw [nmRoots, List.length_map, List.length_take, nmSort_len]; omega
theorem nmRoots_snoc {ms : Nms} {k : Nat} {x : List UInt8} (h : (nmSort ms)[k]? = some x) : nmRoots ms (k + 1) = nmRoots ms k ++ [rtOf ms x] := by
  rw [nmRoots, nmRoots, List.take_add_one, h, List.map_append]
  rfl

def RoPost (w : World) (ms : Nms) (e : Ending) (w' : World) : Prop := ∃ v, e = .returned v ∧ w'.ownsRow w.heap.size 3 1 v ms.length (nats (nmRoots ms ms.length)) ∧ Below w.heap.size w w'

section
variable {w1 w : World} {X : List Nat} {gv b g gs R : Nat} {ms : Nms} {cs : List (Nat × Ce)} {fr : List Nat}
set_option maxHeartbeats 2000000 in
theorem vroots_ok (h : Hv w1 w X gv b g gs R ms cs fr) (hl : ms.length ≤ 1000) : Calls Tryz.prog 39 #[.pointer (some ⟨gv, 0, none⟩)] w (RoPost w ms) := by
  have HN := hidden (vnames_ok h hl)
  have HH := hidden h
  have hk : ∀ x ∈ nmSort ms, x.length ≤ maxLen := fun x hx => by
    obtain ⟨D, h1, h2⟩ := h.vm
    have hm : x ∈ strKeys D := by
      obtain ⟨es, hD, hpw, _⟩ := h1.entries sK14
      obtain ⟨es', hD', hko⟩ := h1.keysOf
      obtain rfl : es = es' := by rw [hD] at hD'; simpa using hD'
      subst hD
      exact (perm_strKeys hpw (fun p hp => by
        obtain ⟨v, hv⟩ := hko p hp
        obtain ⟨x, _, hx, _⟩ := Maps.keyOf_str Tryz.underlying9 hv
        exact ⟨x, hx⟩) h2.nd (fun x => by rw [h2.has, nmHas_iff])).mem_iff.1 (nmSort_mem.1 hx)
    exact strKeys_le h1 Tryz.underlying9 x hm
  have HKL := hidden hk
  have HNL := hidden (nmSort_len ms)
  clear h hk
  obtain ⟨n, hn⟩ : ∃ n, n = ms.length := ⟨_, rfl⟩
  have HNN := hidden hn
  rw [← hn] at hl HNL
  clear hn
  go_enter Tryz.func39, Tryz.ntmps39
  go_wp2_with (go_at_call 30; refine HN.out.mono ?_; rintro e w2 ⟨v7, rfl, r7, b7⟩; obtain ⟨na, nc, rfl, hc⟩ := tx_own r7; have HC := hidden hc; have HB := hidden b7; clear r7 b7 hc; rw [List.length_map, HNL.out] at HC ⊢)
  go_loopw [3, 9] (fun l i wr => ∃ (k : Nat) (a : Option Addr) (c : Nat), k ≤ n ∧ i = .int .i64 (k : Int) ∧ l = .slice a k c ∧ Hid (wr.ownsRow w2.heap.size 3 1 (.slice a k c) k (nats (nmRoots ms k))) ∧ Hid (Below w.heap.size w wr) ∧ Hid (Below w2.heap.size w2 wr)) (fun _ i _ => n - (intOf i).toNat)
  case atStart => exact ⟨0, none, 0, Nat.zero_le _, rfl, rfl, World.ownsRow_nil _ _ _ _, HB, Below.refl _ _⟩
  case round =>
    obtain ⟨k, a, c, hk, rfl, rfl, hO, hbl, hb2⟩ := hrel
    have hwk : wrap64 ((k : Int) + 1) = ((k + 1 : Nat) : Int) := by rw [Go.IntWalk.wrap64_in _ (by omega)]; rfl
    by_cases hlt : k < n
    · have i1 : (k : Int) < (n : Int) := by omega
      have i0 : (0 : Int) ≤ (k : Int) := by omega
      obtain ⟨gn, on, rfl, hcell⟩ := HC.out (by omega)
      have hks : k < (nmSort ms).length := by rw [HNL.out]; exact hlt
      obtain ⟨x, hx⟩ : ∃ x, (nmSort ms)[k]? = some x := ⟨_, List.getElem?_eq_getElem hks⟩
      have hc := below_cell hb2.out (hcell k hlt)
      rw [List.getElem?_map, hx] at hc
      have hmx : x ∈ nmSort ms := List.mem_of_getElem? hx
      have HRS := hidden (nmRoots_snoc hx)
      obtain ⟨s, hs⟩ : ∃ s : ByteArray, s = ⟨x.toArray⟩ := ⟨_, rfl⟩
      have hsd : s.data.toList = x := by rw [hs]
      have hc1 : wr.cell? ⟨gn, on + k, none⟩ = some (.string s) := by rw [hc, hs]; rfl
      obtain ⟨y, hy⟩ : ∃ y, y = rtOf ms x := ⟨_, rfl⟩
      rw [← hy] at HRS
      have hlk : ∀ w', Below w.heap.size w w' → (Instr.lookup 68 (.map (some b)) (.string s) false).run Tryz.prog w' = .ok (.int .i64 (y : Int)) w' := fun w' hb => (HH.out.grow hb).vm.look (by
        have := HKL.out x hmx
        rw [← hsd] at this
        exact this) (by rw [hsd, hy]; exact rtOf_mem (nmSort_mem.1 hmx))
      have hl1 := hlk wr hbl.out
      have c2 := (HH.out.grow hbl.out).c2
      have HLL := hidden hl
      clear hc hcell hks hx hmx hs hsd hy hlk
      go_wp2_with (at_builtin; refine wpList_appB _ rfl _ _ _ rfl w2.heap.size 3 1 8 Tryz.underlying93 info_nat (by omega) _ k (nats (nmRoots ms k)) rfl (hO.out.alloc _) wr.heap.size [Value.int .i64 (y : Int)] rfl (Blk.new _ _ _) rfl (by intro u hu; simp at hu; subst hu; rfl) (by have := HLL.out; simp only [maxLen]; omega) (by have := HLL.out; omega) (by have := hb2.out.size; simp; omega) ?_; intro a3 c3 w3 o3 g3)
      have hbb : Below w2.heap.size w2 w3 := (hb2.out.trans ((grow_alloc wr _).mono hb2.out.size)).grown g3 (by have := hb2.out.size; simp; omega) (fun q hq => (hO.out.lt q hq).1)
      refine ⟨⟨k + 1, a3, c3, by omega, by go_num, rfl, ?_, grow_trans HB.out hbb, hbb⟩, by simp [intOf]; omega⟩
      show World.ownsRow _ _ _ _ _ _ _
      rw [HRS.out, nats_snoc]
      exact o3
    · obtain rfl : k = n := by omega
      go_wp2
      go_ret
      exact ⟨_, rfl, by rw [← HNN.out]; exact owR_base hO.out HB.out.size, hbl.out⟩
end

end Go.Proofs.YtlhnodinhmdjnaaGreatDoor

/- A map from texts to digests, beside versions: what the law keeps of each name. -/
namespace Go.Proofs.YtlhnodinhmdjnaaGreatDoor
set_option maxRecDepth 20000
open Go.RowKit

/-- A tree's digest. -/
abbrev dgT (T : Tre) : List Int := rt 256 0 T.ents
def RV14 (v : Value) : Option (DataW Value × List MemPlace) := some (.held v, [])
/-- Of each name its tree's digest. -/
structure Dr (D : DataW Value) (ms : Nms) (G : List UInt8 → Tre) : Prop where
  has : ∀ k, Maps.has D (.string k) = nmHas ms k
  val : ∀ p ∈ ms, ∀ z, D.atKey (.string p.1) z = .held (.agg (B (dgT (G p.1))))
  len : ∀ p ∈ ms, (dgT (G p.1)).length = 32
  sz : Maps.size D = ms.length
def DM (w : World) (b n : Nat) (ms : Nms) (G : List UInt8 → Tre) : Prop := ∃ D : DataW Value, w.ownsMap Tryz.prog 9 RV14 b n D ∧ Dr D ms G

section
variable {w w' : World} {b n : Nat} {ms : Nms} {G : List UInt8 → Tre}
theorem DM.lt (h : DM w b n ms G) : b < w.heap.size := by
  obtain ⟨D, h, _⟩ := h
  exact h.lt
theorem dm_at (h : DM w b n ms G) (e : w'.heap[b]? = w.heap[b]?) : DM w' b n ms G := by
  obtain ⟨D, ⟨es, clock, k1, k2⟩, h3⟩ := h
  exact ⟨D, ⟨es, clock, e.trans k1, k2⟩, h3⟩
theorem DM.grow (h : DM w b n ms G) (hb : Below w.heap.size w w') : DM w' b n ms G := dm_at h (hb.block b h.lt)
theorem DM.new (w : World) : DM (w.alloc (.map #[] 0)) w.heap.size 0 [] G := ⟨.map [], World.ownsMap_made w _ _ _, ⟨fun _ => rfl, (fun _ h => nomatch h), (fun _ h => nomatch h), rfl⟩⟩
theorem DM.just (h : DM w b n ms G) : DM w b ms.length ms G := by
  obtain ⟨D, ⟨es, clock, h1, h2, h3, h4⟩, h5⟩ := h
  refine ⟨D, ⟨es, clock, h1, h2, ?_, h4⟩, h5⟩
  have := h5.sz
  rw [h4] at this
  rw [← this]
  simp [Maps.size, length_sorted]
theorem DM.len (h : DM w b n ms G) (ty : TypeId) : (Builtin.len_ #[75] ty #[.map (some b)]).run Tryz.prog w = .ok (.int .i64 (ms.length : Int)) w := by
  obtain ⟨D, h1, h2⟩ := h
  rw [h1.len Tryz.underlying75 ty, h2.sz]
theorem DM.look (h : DM w b n ms G) {s : ByteArray} (hs : s.size ≤ maxLen) (hm : nmHas ms s.data.toList = true) : (Instr.lookup 75 (.map (some b)) (.string s) false).run Tryz.prog w = .ok (.agg (B (dgT (G s.data.toList)))) w := by
  obtain ⟨D, h1, h2⟩ := h
  obtain ⟨v, ps, hrun, hR⟩ := h1.lookup sK14 Tryz.underlying75 (zero_hash w) (zd := .held (.agg (B z32))) (zp := []) rfl (sKey14 hs)
  obtain ⟨p, hp, e⟩ := List.mem_map.1 (nmHas_iff.1 hm)
  have := h2.val p hp
  rw [e] at this
  rw [this] at hR
  unfold RV14 at hR
  injection hR with hR
  injection hR with hR _
  injection hR with hR
  rw [hrun, hR]
theorem DM.ok (h : DM w b n ms G) {s : ByteArray} (hs : s.size ≤ maxLen) : ∃ x : List Int, x.length = 32 ∧ (Instr.lookup 75 (.map (some b)) (.string s) true).run Tryz.prog w = .ok (.tuple #[.agg (B x), .bool (nmHas ms s.data.toList)]) w := by
  obtain ⟨D, h1, h2⟩ := h
  obtain ⟨v, ps, hrun, hR⟩ := h1.look_ok sK14 Tryz.underlying75 (zero_hash w) (zd := .held (.agg (B z32))) (zp := []) rfl (sKey14 hs)
  rw [h2.has] at hrun
  cases hm : nmHas ms s.data.toList
  · have hn := h2.has s.data.toList
    rw [hm] at hn
    rw [Maps.atKey_of_not_has hn] at hR
    unfold RV14 at hR
    injection hR with hR
    injection hR with hR _
    injection hR with hR
    rw [hm, hR] at hrun
    exact ⟨z32, z32_length, hrun⟩
  · obtain ⟨p, hp, e⟩ := List.mem_map.1 (nmHas_iff.1 hm)
    have := h2.val p hp
    rw [e] at this
    rw [this] at hR
    unfold RV14 at hR
    injection hR with hR
    injection hR with hR _
    injection hR with hR
    rw [hm, hR] at hrun
    exact ⟨dgT (G s.data.toList), by rw [← e]; exact h2.len p hp, hrun⟩
theorem DM.put (h : DM w b n ms G) {s : ByteArray} (hs : s.size ≤ maxLen) (hm : nmHas ms s.data.toList = false) (v : Nat) {T : Tre} (hT : (dgT T).length = 32) (hn : n ≤ 1073741824) : ∃ w', (Instr.mapUpdate 75 (.map (some b)) (.string s) (.agg (B (dgT T)))).run Tryz.prog w = .ok () w' ∧ DM w' b (n + 1) (nmPut ms s.data.toList v) (upG G s.data.toList T) ∧ w.grownBy w' (some b) := by
  obtain ⟨D, h1, h2⟩ := h
  obtain ⟨w', hrun, hown, hg⟩ := h1.update sK14 Tryz.underlying75 (by simp only [maxLen]; omega) (sKey14 hs) (val := .agg (B (dgT T))) (d := .held (.agg (B (dgT T)))) (ps := []) rfl
  have hne : ∀ p ∈ ms, p.1 ≠ s.data.toList := fun p hp e => by
    have : nmHas ms s.data.toList = true := nmHas_iff.2 (List.mem_map.2 ⟨p, hp, e⟩)
    rw [hm] at this
    cases this
  refine ⟨w', hrun, ⟨_, hown, fun k => ?_, fun p hp z => ?_, fun p hp => ?_, ?_⟩, hg⟩
  · rw [nmHas_put]
    by_cases e : k = s.data.toList
    · subst e
      rw [Maps.has_put_same h1.isMap (show WideAt.IsKeyLit (.string _) from trivial)]
      simp
    · rw [Maps.has_put_other (fun q => e (by injection q)), h2.has]
      simp [e]
  · rw [nmPut_new hm] at hp
    rcases List.mem_cons.1 hp with rfl | hp
    · rw [upG, if_pos rfl]
      exact Maps.atKey_put_same h1.isMap (show WideAt.IsKeyLit (.string _) from trivial) _ _
    · rw [upG, if_neg (hne p hp), Maps.atKey_put_other (fun q => hne p hp (by injection q))]
      exact h2.val p hp z
  · rw [nmPut_new hm] at hp
    rcases List.mem_cons.1 hp with rfl | hp
    · rw [upG, if_pos rfl]
      exact hT
    · rw [upG, if_neg (hne p hp)]
      exact h2.len p hp
  · rw [Maps.size_put (h1.tidy sK14), h2.has, hm, h2.sz, nmPut_new hm]
    simp
end

/-- A root's digest. -/
theorem rt_dig {cs : List (Nat × Ce)} (W : Wf cs []) {h : Nat} {T : Tre} (r : Rt cs h T) : vDg true (cat cs) (h : Int) = dgT T := by
  have e1 : vDg true (cat cs) (h : Int) = sdD cs h := by
    unfold vDg sdD
    by_cases h0 : h = 0
    · subst h0
      rfl
    · rw [if_neg (by omega), if_neg h0, cat_nat, sdC, if_neg h0]
  rw [e1, r.dig W]

section
variable {w1 w : World} {X : List Nat} {gv b g gs R : Nat} {ms : Nms} {G : List UInt8 → Tre} {hd : Nat} {T : Tre} {cs : List (Nat × Ce)} {fr : List Nat}
theorem sv_dig (h : Sv w1 w X gv b g gs R ms G hd T cs fr) (hL : Laid w) {x : Nat} {Y : Tre} (r : Rt cs x Y) : (dgT Y).length = 32 ∧ Calls Tryz.prog 29 #[.pointer (some ⟨g, 0, none⟩), .int .i64 (x : Int)] w fun e w' => e = .returned (.agg (B (dgT Y))) ∧ Below w.heap.size w w' := by
  have e := rt_dig h.wf r
  have h1 := sdig_any h.hv.hz.vw (x : Int) hL
  have h2 := (vDg_len h.hv.hz.vw (x : Int)).1
  rw [e] at h1 h2
  exact ⟨h2, h1⟩

/-- Put, where the value may be. -/
theorem sv_put (h : Sv w1 w X gv b g gs R ms G hd T cs fr) {K : List Int} (hK : Key K) {u : Value} {bs : List Int} (hu : ∀ w', Below w1.heap.size w1 w' → Reads w' u bs) (hL : ∀ w', Below w1.heap.size w1 w' → Laid w') (hl : bs.length ≤ 1024) (hf : noc cs + 258 ≤ R) : Calls Tryz.prog 26 #[.pointer (some ⟨g, 0, none⟩), .int .i64 (hd : Int), .agg (B K), u] w fun e w' => ∃ (top : Nat) (cs' : List (Nat × Ce)) (fr' : List Nat) (T' : Tre), e = .returned (.tuple #[.int .i64 (top : Int), .int .i64 0]) ∧ Sv w1 w' X gv b g gs R ms G top T' cs' fr' ∧ noc cs' ≤ noc cs + 257 ∧ Kx X b w w' := by
  obtain ⟨S, hs, hk, ht⟩ := h.hv.hs
  obtain ⟨ss, b1, b2⟩ := bes_ex h.wf K hK h.rt.tree h.rt.dp
  refine (put_any hs h.rt hK (hk _ hu) (hk _ hL) hl (fun i => Nat.le_trans (h.ownLe i) (by omega)) hf b1).mono ?_
  rintro e w' ⟨top, cs', fr', T', rfl, p, h'⟩
  obtain ⟨k1, k2⟩ := ht _ _ _ h'
  have hc : costN T K bs ss ≤ 257 := by
    have := b2.len
    unfold costN
    split <;> omega
  have hown : ∀ j, own cs' [] j = nct ms j + (if top = j + 1 then 1 else 0) := fun j => by
    have h1 := p.own j
    have h2 := h.own j
    omega
  refine ⟨top, cs', fr', T', rfl, ⟨k1, hown, p.rt, fun q hq => ?_, h.few⟩, by have := p.noc; omega, k2 b⟩
  by_cases e : q.2 = 0
  · have hq2 := h.rts q hq
    rw [e] at hq2 ⊢
    exact rt_tree hq2 (p.keep 0 _ hq2.tree (.inl rfl)) (.inl rfl)
  · have ho : 0 < own cs' [] (q.2 - 1) := by
      rw [hown]
      have := nct_pos (ms := ms) (k := q.1) (j := q.2 - 1) (by rw [show q.2 - 1 + 1 = q.2 by omega]; exact hq)
      omega
    exact rt_tree (h.rts q hq) (p.keep _ _ (h.rts q hq).tree (.inr (by unfold own at ho; omega))) (.inr ho)
/-- Put of a value that is too long. -/
theorem sv_long (h : Sv w1 w X gv b g gs R ms G hd T cs fr) (K : List Int) (a : Option Addr) (n c : Nat) (hl : 1024 < n) : Calls Tryz.prog 26 #[.pointer (some ⟨g, 0, none⟩), .int .i64 (hd : Int), .agg (B K), .slice a n c] w fun e w' => e = .returned (.tuple #[.int .i64 0, .int .i64 4]) ∧ Below w.heap.size w w' :=
  put_bad h.hv.hz.vw (hd : Int) K a n c 4 (by rw [vRf, if_pos rfl, if_pos hl]) (by omega)
end

end Go.Proofs.YtlhnodinhmdjnaaGreatDoor

/- Lists of writes with names, in memory. -/
namespace Go.Proofs.YtlhnodinhmdjnaaGreatDoor
set_option maxRecDepth 20000
open Go.RowKit

/-- A write: its key, its value's slice and bytes, a name. -/
structure Wv where
  K : List Int
  u : Value
  bs : List Int
  s : ByteArray
instance : Inhabited Wv := ⟨⟨z32, .slice none 0 0, [], ⟨#[]⟩⟩⟩
def wvL (q : Wv) : List Value := q.K.map (Value.int .u8) ++ [q.u, .string q.s]
theorem wvL_length (q : Wv) (h : q.K.length = 32) : (wvL q).length = 34 := by simp [wvL, h]
structure WvOk (w : World) (q : Wv) : Prop where
  key : Key q.K
  rd : Reads w q.u q.bs
  nm : q.s.size ≤ maxLen
/-- v is a list of these. -/
def WvAt (w : World) (v : Value) (l : List Wv) : Prop := ∃ a c, v = .slice a l.length c ∧ (0 < l.length → ∃ g o, a = some ⟨g, o, none⟩ ∧ ∀ i q, l[i]? = some q → w.rangeAt g (o + i * 34) (wvL q)) ∧ ∀ q ∈ l, WvOk w q

theorem wv_key {w : World} {g o : Nat} {q : Wv} (h : w.rangeAt g o (wvL q)) : w.rangeAt g o (B q.K).toList := fun j v hv => h j v (by
  rw [B_toList] at hv
  have hj : j < q.K.length := by
    have := (List.getElem?_eq_some_iff.1 hv).1
    simpa using this
  rw [wvL, List.getElem?_append_left (by simpa using hj)]
  exact hv)
theorem wv_val {w : World} {g o : Nat} {q : Wv} (h : w.rangeAt g o (wvL q)) (hk : q.K.length = 32) : w.cell? ⟨g, o + 32, none⟩ = some q.u := h 32 _ (by
  rw [wvL, List.getElem?_append_right (by simp [hk])]
  simp [hk])
theorem wv_nm {w : World} {g o : Nat} {q : Wv} (h : w.rangeAt g o (wvL q)) (hk : q.K.length = 32) : w.cell? ⟨g, o + 33, none⟩ = some (.string q.s) := h 33 _ (by
  rw [wvL, List.getElem?_append_right (by simp [hk])]
  simp [hk])

end Go.Proofs.YtlhnodinhmdjnaaGreatDoor
