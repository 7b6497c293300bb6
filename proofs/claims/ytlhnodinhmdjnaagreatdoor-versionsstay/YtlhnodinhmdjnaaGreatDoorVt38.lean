/- What VersionsStay's walk keeps: versions, a current root, the digests of names. -/
import Derived.Test.YtlhnodinhmdjnaaGreatDoorVt37
import Derived.Test.YtlhnodinhmdjnaaGreatDoorVt30
namespace Go.Proofs.YtlhnodinhmdjnaaGreatDoor
set_option maxRecDepth 20000
open Go.RowKit

/-- Versions with names ms and trees G, the current root, and the digests at bd. -/
structure Ys (wb w : World) (X : List Nat) (gv b bd g gs : Nat) (ms : Nms) (G : List UInt8 → Tre) (root : Nat) (T : Tre) (kn km : Nat) (cs : List (Nat × Ce)) (fr : List Nat) : Prop where
  sv : Sv wb w X gv b g gs 5160 ms G root T cs fr
  dm : DM w bd ms.length ms G
  noc : noc cs ≤ 257 * kn
  le : ms.length ≤ km
  bdx : bd ∈ X
  bdb : bd ≠ b
/-- The same, whatever the cells. -/
def Yt (wb w : World) (X : List Nat) (gv b bd g gs : Nat) (ms : Nms) (G : List UInt8 → Tre) (root : Nat) (T : Tre) (kn km : Nat) : Prop := ∃ cs fr, Ys wb w X gv b bd g gs ms G root T kn km cs fr
/-- Behind Add: the name is there, its digest not yet. -/
def Yi (wb w : World) (X : List Nat) (gv b bd g gs : Nat) (ms : Nms) (G : List UInt8 → Tre) (root : Nat) (T : Tre) (kn km : Nat) (k : List UInt8) : Prop := ∃ cs fr, Sv wb w X gv b g gs 5160 (nmPut ms k root) (upG G k T) root T cs fr ∧ DM w bd ms.length ms G ∧ noc cs ≤ 257 * kn ∧ ms.length ≤ km ∧ bd ∈ X ∧ bd ≠ b

section
variable {wb w w' : World} {X : List Nat} {gv b bd g gs : Nat} {ms : Nms} {G : List UInt8 → Tre} {root : Nat} {T : Tre} {kn km : Nat}

theorem Yt.grow (h : Yt wb w X gv b bd g gs ms G root T kn km) (hb : Below w.heap.size w w') : Yt wb w' X gv b bd g gs ms G root T kn km := by
  obtain ⟨cs, fr, h⟩ := h
  exact ⟨cs, fr, h.sv.grow hb, h.dm.grow hb, h.noc, h.le, h.bdx, h.bdb⟩
theorem Yi.grow {k : List UInt8} (h : Yi wb w X gv b bd g gs ms G root T kn km k) (hb : Below w.heap.size w w') : Yi wb w' X gv b bd g gs ms G root T kn km k := by
  obtain ⟨cs, fr, h1, h2, h3⟩ := h
  exact ⟨cs, fr, h1.grow hb, h2.grow hb, h3⟩
theorem Yt.low (h : Yt wb w X gv b bd g gs ms G root T kn km) : Below wb.heap.size wb w := by
  obtain ⟨cs, fr, h⟩ := h
  exact h.sv.low
theorem Yt.mono {kn' km' : Nat} (h : Yt wb w X gv b bd g gs ms G root T kn km) (h1 : kn ≤ kn') (h2 : km ≤ km') : Yt wb w X gv b bd g gs ms G root T kn' km' := by
  obtain ⟨cs, fr, h⟩ := h
  exact ⟨cs, fr, h.sv, h.dm, by have := h.noc; omega, by have := h.le; omega, h.bdx, h.bdb⟩
theorem Yt.few (h : Yt wb w X gv b bd g gs ms G root T kn km) : ms.length ≤ km := by
  obtain ⟨cs, fr, h⟩ := h
  exact h.le

/-- Put of any value. -/
theorem yt_put (h : Yt wb w X gv b bd g gs ms G root T kn km) {K : List Int} (hK : Key K) {ua : Option Addr} {uc : Nat} {bs : List Int} (hu : ∀ w', Below wb.heap.size wb w' → Reads w' (.slice ua bs.length uc) bs) (hL : ∀ w', Below wb.heap.size wb w' → Laid w') (hk : kn ≤ 15) : Calls Tryz.prog 26 #[.pointer (some ⟨g, 0, none⟩), .int .i64 (root : Int), .agg (B K), .slice ua bs.length uc] w fun e w' => ∃ (tv er : Int) (root' : Nat) (T' : Tre), e = .returned (.tuple #[.int .i64 tv, .int .i64 er]) ∧ Yt wb w' X gv b bd g gs ms G root' T' (kn + 1) km ∧ ((er = 0 ∧ tv = (root' : Int)) ∨ (er = 4 ∧ root' = root)) := by
  obtain ⟨cs, fr, h⟩ := h
  by_cases hl : bs.length ≤ 1024
  · refine (sv_put h.sv hK hu hL hl (by have := h.noc; omega)).mono ?_
    rintro e w' ⟨top, cs', fr', T', rfl, k1, k2, k3⟩
    exact ⟨_, _, top, T', rfl, ⟨cs', fr', k1, dm_at h.dm (k3 bd h.bdx h.bdb), by have := h.noc; omega, h.le, h.bdx, h.bdb⟩, .inl ⟨rfl, rfl⟩⟩
  · refine (sv_long h.sv K ua bs.length uc (by omega)).mono ?_
    rintro e w' ⟨rfl, b1⟩
    exact ⟨_, _, root, T, rfl, ⟨cs, fr, h.sv.grow b1, h.dm.grow b1, by have := h.noc; omega, h.le, h.bdx, h.bdb⟩, .inr ⟨rfl, rfl⟩⟩

theorem yt_ok (h : Yt wb w X gv b bd g gs ms G root T kn km) {s : ByteArray} (hs : s.size ≤ maxLen) : ∃ x : List Int, x.length = 32 ∧ (Instr.lookup 75 (.map (some bd)) (.string s) true).run Tryz.prog w = .ok (.tuple #[.agg (B x), .bool (nmHas ms s.data.toList)]) w := by
  obtain ⟨cs, fr, h⟩ := h
  exact h.dm.ok hs
theorem yt_bad (h : Yt wb w X gv b bd g gs ms G root T kn km) {s : ByteArray} (hs : s.size ≤ maxLen) (hn : nmOk s = false) : Calls Tryz.prog 27 #[.pointer (some ⟨gv, 0, none⟩), .string s, .int .i64 (root : Int)] w fun e w' => e = .returned (.int .i64 5) ∧ Below w.heap.size w w' := by
  obtain ⟨cs, fr, h⟩ := h
  exact vadd_name h.sv.hv hs hn _
theorem yt_there (h : Yt wb w X gv b bd g gs ms G root T kn km) {s : ByteArray} (hn : nmOk s = true) (ht : nmHas ms s.data.toList = true) : Calls Tryz.prog 27 #[.pointer (some ⟨gv, 0, none⟩), .string s, .int .i64 (root : Int)] w fun e w' => e = .returned (.int .i64 6) ∧ Below w.heap.size w w' := by
  obtain ⟨cs, fr, h⟩ := h
  exact sv_there h.sv hn ht
theorem yt_add (h : Yt wb w X gv b bd g gs ms G root T kn km) {s : ByteArray} (hn : nmOk s = true) (ht : nmHas ms s.data.toList = false) (hk : km ≤ 15) : Calls Tryz.prog 27 #[.pointer (some ⟨gv, 0, none⟩), .string s, .int .i64 (root : Int)] w fun e w' => e = .returned (.int .i64 0) ∧ Yi wb w' X gv b bd g gs ms G root T kn km s.data.toList := by
  obtain ⟨cs, fr, h⟩ := h
  refine (sv_add h.sv hn ht (by have := h.le; omega)).mono ?_
  rintro e w' ⟨cs', rfl, k1, k2, k3, k4⟩
  exact ⟨rfl, cs', fr, k1, dm_at h.dm (k4 bd h.bdx h.bdb), by have := h.noc; omega, h.le, h.bdx, h.bdb⟩
theorem yi_len {k : List UInt8} (h : Yi wb w X gv b bd g gs ms G root T kn km k) (ty : TypeId) : (Builtin.len_ #[75] ty #[.map (some bd)]).run Tryz.prog w = .ok (.int .i64 (ms.length : Int)) w := by
  obtain ⟨cs, fr, h1, h2, h3⟩ := h
  exact h2.len ty
theorem yi_dig {k : List UInt8} (h : Yi wb w X gv b bd g gs ms G root T kn km k) (hL : Laid w) : (dgT T).length = 32 ∧ Calls Tryz.prog 29 #[.pointer (some ⟨g, 0, none⟩), .int .i64 (root : Int)] w fun e w' => e = .returned (.agg (B (dgT T))) ∧ Below w.heap.size w w' := by
  obtain ⟨cs, fr, h1, h2, h3⟩ := h
  exact sv_dig h1 hL h1.rt
/-- The digest is kept. -/
theorem yi_put {s : ByteArray} (h : Yi wb w X gv b bd g gs ms G root T kn km s.data.toList) (hs : s.size ≤ maxLen) (ht : nmHas ms s.data.toList = false) (hT : (dgT T).length = 32) (hk : km ≤ 15) : ∃ w', (Instr.mapUpdate 75 (.map (some bd)) (.string s) (.agg (B (dgT T)))).run Tryz.prog w = .ok () w' ∧ Yt wb w' X gv b bd g gs (nmPut ms s.data.toList root) (upG G s.data.toList T) root T kn (km + 1) := by
  obtain ⟨cs, fr, h1, h2, h3, h4, h5, h6⟩ := h
  obtain ⟨w', r, d, q⟩ := h2.put hs ht root hT (by omega)
  obtain ⟨z1, z2⟩ := h1.hv.hz.turn h5 q
  have hgb : gv ≠ bd := by
    rintro rfl
    obtain ⟨D, ⟨es, clock, k1, _⟩, _⟩ := h2
    have hb := h1.hv.blk
    unfold Blk at hb
    rw [k1] at hb
    cases hb
  exact ⟨w', r, cs, fr, ⟨⟨z1, h1.hv.gx, h1.hv.bx, blk_at h1.hv.blk (z2 gv h1.hv.gx hgb), vm_at h1.hv.vm (z2 b h1.hv.bx (fun e => h6 e.symm))⟩, h1.own, h1.rt, h1.rts, h1.few⟩, d.just, h3, by rw [nmPut_new ht, List.length_cons]; omega, h5, h6⟩

/-- The names in memory. -/
def NmB (w : World) (X : List Nat) (b : Nat) (a : Option Addr) (ms : Nms) : Prop := 0 < ms.length → ∃ gn on, a = some ⟨gn, on, none⟩ ∧ gn ∈ X ∧ gn ≠ b ∧ ∀ i x, (nmSort ms)[i]? = some x → w.cell? ⟨gn, on + i, none⟩ = some (.string ⟨x.toArray⟩)
theorem cell_at {w w' : World} {g : Nat} (e : w'.heap[g]? = w.heap[g]?) (i : Nat) : w'.cell? ⟨g, i, none⟩ = w.cell? ⟨g, i, none⟩ := by
  unfold World.cell?
  rw [e]
theorem NmB.kx {a : Option Addr} (h : NmB w X b a ms) (k : Kx X b w w') : NmB w' X b a ms := fun hp => by
  obtain ⟨gn, on, e, h1, h2, h3⟩ := h hp
  exact ⟨gn, on, e, h1, h2, fun i x hx => by rw [cell_at (k gn h1 h2)]; exact h3 i x hx⟩
theorem NmB.grow {a : Option Addr} (h : NmB w X b a ms) (hb : Below w.heap.size w w') : NmB w' X b a ms := fun hp => by
  obtain ⟨gn, on, e, h1, h2, h3⟩ := h hp
  exact ⟨gn, on, e, h1, h2, fun i x hx => below_cell hb (h3 i x hx)⟩

/-- Behind the writes: names of ms in memory, and the rest of them still to be let go. -/
structure Zs (wb w : World) (X : List Nat) (gv b bd g gs : Nat) (a : Option Addr) (ms : Nms) (G : List UInt8 → Tre) (root : Nat) (T : Tre) (cs : List (Nat × Ce)) (fr : List Nat) : Prop where
  sv : Sv wb w X gv b g gs 5160 ms G root T cs fr
  dm : DM w bd ms.length ms G
  nb : NmB w X b a ms

theorem yt_names (h : Yt wb w X gv b bd g gs ms G root T kn km) : Calls Tryz.prog 30 #[.pointer (some ⟨gv, 0, none⟩)] w fun e w' => ∃ a c X' cs fr, e = .returned (.slice a ms.length c) ∧ Zs wb w' X' gv b bd g gs a ms G root T cs fr := by
  obtain ⟨cs, fr, h⟩ := h
  refine (vnames_ok h.sv.hv (by have := h.sv.few; omega)).mono ?_
  rintro e w' ⟨v, rfl, r, bb⟩
  have hl := nmSort_len ms
  have hsv := h.sv.grow bb
  rcases r.2 with ⟨rfl, h0⟩ | ⟨gn, cap, cur, rfl, hg, hrow⟩
  · rw [hl] at h0
    exact ⟨none, 0, X, cs, fr, by rw [h0], hsv, h.dm.grow bb, fun hp => by omega⟩
  · have hlt : gn < w'.heap.size := (Array.getElem?_eq_some_iff.1 hrow.1).1
    have hz := h.sv.hv.hz.add bb hg hlt
    have hbn : gn ≠ b := by
      have := h.sv.hv.vm.lt
      omega
    refine ⟨some ⟨gn, 0, none⟩, cap, gn :: X, cs, fr, by rw [hl], ⟨⟨hz, List.mem_cons_of_mem _ h.sv.hv.gx, List.mem_cons_of_mem _ h.sv.hv.bx, hsv.hv.blk, hsv.hv.vm⟩, h.sv.own, h.sv.rt, h.sv.rts, h.sv.few⟩, h.dm.grow bb, fun hp => ⟨gn, 0, rfl, List.mem_cons_self, hbn, fun i x hx => ?_⟩⟩
    rw [Nat.zero_add]
    have hi := (List.getElem?_eq_some_iff.1 hx).1
    rw [r.cellAt i (by omega)]
    simp [hx]
end

end Go.Proofs.YtlhnodinhmdjnaaGreatDoor

/- VersionsStay's walk behind the writes: names told, digests held, all let go. -/
namespace Go.Proofs.YtlhnodinhmdjnaaGreatDoor
set_option maxRecDepth 20000
open Go.RowKit

theorem vm_names_le {w : World} {b n : Nat} {ms : Nms} (h : VM w b n ms) : ∀ x ∈ nmSort ms, x.length ≤ maxLen := fun x hx => by
  obtain ⟨D, h1, h2⟩ := h
  have hm : x ∈ strKeys D := by
    obtain ⟨es, hD, hpw, _⟩ := h1.entries sK14
    obtain ⟨es', hD', hko⟩ := h1.keysOf
    obtain rfl : es = es' := by rw [hD] at hD'; simpa using hD'
    subst hD
    exact (perm_strKeys hpw (fun p hp => by
      obtain ⟨v, hv⟩ := hko p hp
      obtain ⟨x, _, hx, _⟩ := Maps.keyOf_str Tryz.underlying9 hv
      exact ⟨x, hx⟩) h2.nd (fun x => by rw [h2.has, nmHas_iff])).mem_iff.1 (nmSort_mem.1 hx)
  exact strKeys_le h1 Tryz.underlying9 x hm

/-- What is left behind the first k names were let go. -/
def msD (ms : Nms) (k : Nat) : Nms := ((nmSort ms).take k).foldl nmDel ms
theorem foldl_del_mem : ∀ (l : List (List UInt8)) (ms : Nms) (p : List UInt8 × Nat), p ∈ l.foldl nmDel ms ↔ p ∈ ms ∧ p.1 ∉ l
  | [], ms, p => by simp
  | x :: l, ms, p => by
    rw [List.foldl_cons, foldl_del_mem l, nmDel_mem]
    simp only [List.mem_cons, not_or]
    constructor
    · rintro ⟨⟨h1, h2⟩, h3⟩
      exact ⟨h1, h2, h3⟩
    · rintro ⟨h1, h2, h3⟩
      exact ⟨⟨h1, h2⟩, h3⟩
theorem msD_step {ms : Nms} {k : Nat} {x : List UInt8} (h : (nmSort ms)[k]? = some x) : msD ms (k + 1) = nmDel (msD ms k) x := by
  rw [msD, List.take_add_one, h]
  simp [msD, List.foldl_append]
theorem nmSort_nd {ms : Nms} (h : (ms.map (·.1)).Nodup) : (nmSort ms).Nodup := (List.mergeSort_perm _ _).nodup_iff.2 h
theorem msD_mem {ms : Nms} (hn : (ms.map (·.1)).Nodup) {k : Nat} {x : List UInt8} (h : (nmSort ms)[k]? = some x) : (x, rtOf ms x) ∈ msD ms k := by
  refine (foldl_del_mem _ _ _).2 ⟨rtOf_mem (nmSort_mem.1 (List.mem_of_getElem? h)), fun hm => ?_⟩
  obtain ⟨j, hj, e⟩ := List.getElem_of_mem hm
  rw [List.length_take] at hj
  rw [List.getElem_take] at e
  obtain ⟨hk, e2⟩ := List.getElem?_eq_some_iff.1 h
  have hh := List.pairwise_iff_getElem.1 (nmSort_nd hn) j k (by omega) hk (by omega)
  exact hh (by rw [e, e2])
theorem msD_end (ms : Nms) : msD ms ms.length = [] := by
  refine List.eq_nil_iff_forall_not_mem.2 fun p hp => ?_
  obtain ⟨h1, h2⟩ := (foldl_del_mem _ _ _).1 hp
  rw [List.take_of_length_le (by rw [nmSort_len]; exact Nat.le_refl _)] at h2
  exact h2 (nmSort_mem.2 (List.mem_map.2 ⟨p, h1, rfl⟩))
theorem nmSort_lt {ms : Nms} (hn : (ms.map (·.1)).Nodup) {k : Nat} {x y : List UInt8} (h : (nmSort ms)[k]? = some x) (h' : (nmSort ms)[k + 1]? = some y) : ¬ y ≤ x := fun hle => by
  obtain ⟨hk, e⟩ := List.getElem?_eq_some_iff.1 h
  obtain ⟨hk', e'⟩ := List.getElem?_eq_some_iff.1 h'
  have tr : ∀ a b c : List UInt8, leB a b = true → leB b c = true → leB a c = true := fun a b c h1 h2 => by simp only [leB, decide_eq_true_eq] at *; exact List.le_trans h1 h2
  have tot : ∀ a b : List UInt8, (leB a b || leB b a) = true := fun a b => by simp only [leB, Bool.or_eq_true, decide_eq_true_eq]; exact List.le_total a b
  have hs := List.pairwise_iff_getElem.1 (List.pairwise_mergeSort tr tot (ms.map (·.1))) k (k + 1) hk hk' (by omega)
  have h1 : x ≤ y := by
    have : leB (nmSort ms)[k] (nmSort ms)[k + 1] = true := hs
    rw [e, e'] at this
    simpa [leB] using this
  have hne := List.pairwise_iff_getElem.1 (nmSort_nd hn) k (k + 1) hk hk' (by omega)
  exact hne (by rw [e, e']; exact List.le_antisymm h1 hle)

section
variable {wb w w' : World} {X : List Nat} {gv b bd g gs : Nat} {a : Option Addr} {ms : Nms} {G : List UInt8 → Tre} {root : Nat} {T : Tre} {cs : List (Nat × Ce)} {fr : List Nat}
theorem Zs.grow (h : Zs wb w X gv b bd g gs a ms G root T cs fr) (hb : Below w.heap.size w w') : Zs wb w' X gv b bd g gs a ms G root T cs fr := ⟨h.sv.grow hb, h.dm.grow hb, h.nb.grow hb⟩
theorem Zs.nd (h : Zs wb w X gv b bd g gs a ms G root T cs fr) : (ms.map (·.1)).Nodup := by
  obtain ⟨D, _, hv⟩ := h.sv.hv.vm
  exact hv.nd
theorem Zs.sz (h : Zs wb w X gv b bd g gs a ms G root T cs fr) {k : Nat} {x : List UInt8} (hx : (nmSort ms)[k]? = some x) : (⟨x.toArray⟩ : ByteArray).size ≤ maxLen := vm_names_le h.sv.hv.vm x (List.mem_of_getElem? hx)
theorem zs_root (h : Zs wb w X gv b bd g gs a ms G root T cs fr) {k : Nat} {x : List UInt8} (hx : (nmSort ms)[k]? = some x) : Calls Tryz.prog 31 #[.pointer (some ⟨gv, 0, none⟩), .string ⟨x.toArray⟩] w fun e w' => e = .returned (.tuple #[.int .i64 (rtOf ms x : Int), .int .i64 0]) ∧ w' = w := vroot_ok h.sv.hv (h.sz hx) (rtOf_mem (nmSort_mem.1 (List.mem_of_getElem? hx)))
theorem zs_dig (h : Zs wb w X gv b bd g gs a ms G root T cs fr) (hL : Laid w) {k : Nat} {x : List UInt8} (hx : (nmSort ms)[k]? = some x) : (dgT (G x)).length = 32 ∧ Calls Tryz.prog 29 #[.pointer (some ⟨g, 0, none⟩), .int .i64 (rtOf ms x : Int)] w fun e w' => e = .returned (.agg (B (dgT (G x)))) ∧ Below w.heap.size w w' := sv_dig h.sv hL (h.sv.rts _ (rtOf_mem (nmSort_mem.1 (List.mem_of_getElem? hx))))
theorem zs_look (h : Zs wb w X gv b bd g gs a ms G root T cs fr) {k : Nat} {x : List UInt8} (hx : (nmSort ms)[k]? = some x) : (Instr.lookup 75 (.map (some bd)) (.string ⟨x.toArray⟩) false).run Tryz.prog w = .ok (.agg (B (dgT (G x)))) w := h.dm.look (s := ⟨x.toArray⟩) (h.sz hx) (nmHas_iff.2 (nmSort_mem.1 (List.mem_of_getElem? hx)))
/-- Names still to be let go. -/
def Zd (wb w : World) (X : List Nat) (gv b g gs : Nat) (a : Option Addr) (ms : Nms) (G : List UInt8 → Tre) (k : Nat) : Prop := (∃ cs fr, Sv wb w X gv b g gs 5160 (msD ms k) G 0 .emp cs fr) ∧ NmB w X b a ms
theorem zs_zero (h : Zs wb w X gv b bd g gs a ms G 0 T cs fr) : Zd wb w X gv b g gs a ms G 0 := by
  have hT := h.sv.rt.tree
  have : T = .emp := by
    cases T with
    | emp => rfl
    | lf _ _ => have := hT.1; omega
    | nd _ _ _ _ _ => have := hT.1; omega
  subst this
  exact ⟨⟨cs, fr, h.sv⟩, h.nb⟩
theorem zs_let (h : Zs wb w X gv b bd g gs a ms G root T cs fr) (h0 : 0 < root) : Calls Tryz.prog 32 #[.pointer (some ⟨g, 0, none⟩), .int .i64 (root : Int)] w fun e w' => ∃ m : Int, e = .returned (.tuple #[.int .i64 m, .int .i64 0]) ∧ Zd wb w' X gv b g gs a ms G 0 := by
  refine (sv_let h.sv h0).mono ?_
  rintro e w' ⟨cs', fr', n, rfl, k1, _, _, k4⟩
  exact ⟨_, rfl, ⟨cs', fr', k1⟩, h.nb.kx k4⟩
theorem Zd.grow {k : Nat} (h : Zd wb w X gv b g gs a ms G k) (hb : Below w.heap.size w w') : Zd wb w' X gv b g gs a ms G k := by
  obtain ⟨⟨cs, fr, h⟩, h2⟩ := h
  exact ⟨⟨cs, fr, h.grow hb⟩, h2.grow hb⟩
theorem Zd.low {k : Nat} (h : Zd wb w X gv b g gs a ms G k) : Below wb.heap.size wb w := by
  obtain ⟨⟨cs, fr, h⟩, h2⟩ := h
  exact h.low
theorem zd_drop {k : Nat} (h : Zd wb w X gv b g gs a ms G k) (hn : (ms.map (·.1)).Nodup) {x : List UInt8} (hx : (nmSort ms)[k]? = some x) (hs : (⟨x.toArray⟩ : ByteArray).size ≤ maxLen) : Calls Tryz.prog 33 #[.pointer (some ⟨gv, 0, none⟩), .string ⟨x.toArray⟩] w fun e w' => ∃ m : Int, e = .returned (.tuple #[.int .i64 m, .int .i64 0]) ∧ Zd wb w' X gv b g gs a ms G (k + 1) := by
  obtain ⟨⟨cs, fr, h⟩, h2⟩ := h
  refine (sv_drop (s := ⟨x.toArray⟩) hs h (msD_mem hn hx)).mono ?_
  rintro e w' ⟨n, rfl, cs', fr', m, rfl, k1, _, _, k4⟩
  exact ⟨_, rfl, ⟨cs', fr', by rw [msD_step hx]; exact k1⟩, h2.kx k4⟩
theorem zd_occ (h : Zd wb w X gv b g gs a ms G ms.length) : Calls Tryz.prog 34 #[.pointer (some ⟨g, 0, none⟩)] w fun e w' => e = .returned (.int .i64 0) ∧ Below w.heap.size w w' := by
  obtain ⟨⟨cs, fr, h⟩, h2⟩ := h
  rw [msD_end] at h
  obtain ⟨S, hs, _⟩ := h.hv.hs
  have := hs_occ hs
  rwa [h.none] at this
theorem zd_len (h : Zd wb w X gv b g gs a ms G ms.length) : Calls Tryz.prog 35 #[.pointer (some ⟨gv, 0, none⟩)] w fun e w' => e = .returned (.int .i64 0) ∧ w' = w := by
  obtain ⟨⟨cs, fr, h⟩, h2⟩ := h
  rw [msD_end] at h
  exact vlen_ok h.hv
end

end Go.Proofs.YtlhnodinhmdjnaaGreatDoor

/- The document's examples that the laws of put ask (awake), as a contract. -/
namespace Go.Proofs.YtlhnodinhmdjnaaGreatDoor
set_option maxRecDepth 20000
open Go.RowKit

theorem built_z : Tryz.prog.built 23 [] = some (B z32) := by kernel_rfl

/-- A root with one entry is its leaf. -/
theorem Rt.one {cs : List (Nat × Ce)} {h : Nat} {T : Tre} (r : Rt cs h T) (W : Wf cs []) {e : Ent} (he : T.ents.Perm [e]) : T = .lf e.1 e.2 := by
  have hl := he.length_eq
  match T, r.tree with
  | .emp, _ => simp [Tre.ents] at hl
  | .lf k b, _ =>
    have := he.mem_iff.1 (show ((k, b) : Ent) ∈ [(k, b)] by simp)
    rw [← List.mem_singleton.1 this]
  | .nd d hl' hr L R, hT =>
    have h2 := (nd_ok W hT).two
    rw [show (Tre.nd d hl' hr L R).ents = L.ents ++ R.ents from rfl] at hl
    simp only [List.length_singleton] at hl
    omega

/-- A first entry. -/
theorem pa_first {fr fr' : List Nat} {K bs : List Int} {ss : List Nat} {top : Nat} {cs cs' : List (Nat × Ce)} {T' : Tre} (hss : BesIs K .emp 0 ss) (p : PaIs cs fr .emp 0 K bs ss top cs' fr' T') : T'.ents.Perm [(K, bs)] ∧ noc cs' = noc cs + 1 ∧ cs'.length ≤ cs.length + 1 := by
  have e : ss = [] := by
    rcases hss with ⟨_, e⟩ | ⟨b, e, _⟩ | ⟨k, b, c, e, _⟩
    · exact e
    · cases e
    · cases e
  subst e
  exact ⟨p.ents, p.just (.inl rfl), p.len⟩

/-- A second one that parts at the depth c. -/
theorem pa_second {fr fr' : List Nat} {K bs k b : List Int} {h c : Nat} {ss : List Nat} {top : Nat} {cs cs' : List (Nat × Ce)} {T' : Tre} (hc : IsCommon K k c) (hne : k ≠ K) (hss : BesIs K (.lf k b) h ss) (p : PaIs cs fr (.lf k b) h K bs ss top cs' fr' T') : T'.ents.Perm [(K, bs), (k, b)] ∧ noc cs' = noc cs + (c + 2) ∧ costN (.lf k b) K bs ss = c + 2 ∧ cs'.length ≤ cs.length + (c + 2) := by
  have e : ss = besX [] c h := by
    rcases hss with ⟨e, _⟩ | ⟨b', e, _⟩ | ⟨k', b', c', e1, _, e3, _, _, e6⟩
    · cases e
    · injection e with e _
      injection e with e _
      exact absurd e hne
    · injection e1 with e1 _
      injection e1 with e1 _
      subst e1
      rw [e6, hc.one e3]
      rfl
  have hl : ss.length = c + 1 := by rw [e, besX_len _ _ _ (by simp)]
  have hcst : costN (.lf k b) K bs ss = c + 2 := by
    have : ¬ ((Tre.lf k b).efin K = [(K, bs)]) := fun q => by
      injection q with q _
      injection q with q _
      exact hne q
    rw [costN, if_neg this, hl]
    omega
  refine ⟨?_, ?_, hcst, by rw [← hcst]; exact p.len⟩
  · have := p.ents
    unfold upE at this
    rw [show (Tre.lf k b).ents = [(k, b)] from rfl, List.filter_cons, if_pos (by simpa using hne), List.filter_nil] at this
    exact this
  · rw [← hcst]
    exact p.just (.inr (by rw [e]; simp [besX]))

/-- Behind the first Put, and behind the second. -/
def Aw (w : World) (S : List Nat) (w' : World) (g gs room r n m : Nat) (es : List Ent) : Prop := ∃ cs fr T, Hs w S w' g gs room cs fr ∧ Rt cs r T ∧ T.ents.Perm es ∧ noc cs = n ∧ (∀ i, own cs [] i ≤ m) ∧ cs.length ≤ n
theorem Aw.grow {w w' w'' : World} {S : List Nat} {g gs room r n m : Nat} {es : List Ent} (h : Aw w S w' g gs room r n m es) (hb : Below w'.heap.size w' w'') : Aw w S w'' g gs room r n m es := by
  obtain ⟨cs, fr, T, h1, h2⟩ := h
  exact ⟨cs, fr, T, h1.grow hb, h2⟩
theorem Aw.low {w w' : World} {g gs room r n m : Nat} {es : List Ent} (h : Aw w [] w' g gs room r n m es) : Below w.heap.size w w' := by
  obtain ⟨cs, fr, T, h1, h2⟩ := h
  exact h1.low
theorem Aw.size {w w' : World} {S : List Nat} {g gs room r n m : Nat} {es : List Ent} (h : Aw w S w' g gs room r n m es) : Calls Tryz.prog 41 #[.pointer (some ⟨g, 0, none⟩), .int .i64 (r : Int)] w' fun e w'' => e = .returned (.int .i64 (es.length : Int)) ∧ Below w'.heap.size w' w'' := by
  obtain ⟨cs, fr, T, h1, h2, h3, _⟩ := h
  have := size_any h1.vw (r : Int)
  rwa [cat_nat, h2.size h1.2, h3.length_eq] at this
theorem Aw.occ {w w' : World} {S : List Nat} {g gs room r n m : Nat} {es : List Ent} (h : Aw w S w' g gs room r n m es) : Calls Tryz.prog 34 #[.pointer (some ⟨g, 0, none⟩)] w' fun e w'' => e = .returned (.int .i64 (n : Int)) ∧ Below w'.heap.size w' w'' := by
  obtain ⟨cs, fr, T, h1, h2, h3, h4, _⟩ := h
  have := hs_occ h1
  rwa [h4] at this

theorem own_nil (i : Nat) : own [] [] i = 0 := by simp [own, cc]
theorem own_step {a b x y : Nat} {p q : Prop} [Decidable p] [Decidable q] (h : a + (if p then 1 else 0) = b + (if q then 1 else 0)) (hb : b ≤ x) (hy : x + 1 ≤ y) : a ≤ y := by
  split at h <;> split at h <;> omega

theorem aw_first {w w' : World} {S : List Nat} {g gs room : Nat} (hL : Kq S w Laid) (H : Hs w S w' g gs room [] []) (K : List Int) (hK : Key K) (hr : 258 ≤ room) : Calls Tryz.prog 26 #[.pointer (some ⟨g, 0, none⟩), .int .i64 0, .agg (B K), .slice none 0 0] w' fun e w'' => ∃ r : Nat, e = .returned (.tuple #[.int .i64 (r : Int), .int .i64 0]) ∧ Aw w S w'' g gs room r 1 1 [(K, [])] := by
  obtain ⟨ss, hss, _⟩ := (Rt.zero []).bes Wf.new hK
  refine (put_any H (Rt.zero []) hK (u := .slice none 0 0) (bs := []) (fun _ _ => Reads.nil _) hL (by simp) (fun i => by rw [own_nil]; omega) (by show 0 + 258 ≤ room; omega) hss).mono ?_
  rintro e w'' ⟨top, cs', fr', T', rfl, p, hh⟩
  obtain ⟨q1, q2, q3⟩ := pa_first hss p
  exact ⟨top, rfl, cs', fr', T', hh, p.rt, q1, by rw [q2]; rfl, fun i => own_step (p.own i) (x := 0) (by rw [own_nil]; omega) (by omega), q3⟩

theorem aw_second {w w' : World} {S : List Nat} {g gs room r : Nat} (hL : Kq S w Laid) {k : List Int} (H : Aw w S w' g gs room r 1 1 [(k, [])]) (K : List Int) (hK : Key K) (hne : k ≠ K) (c : Nat) (hc : IsCommon K k c) (hr : 259 ≤ room) : Calls Tryz.prog 26 #[.pointer (some ⟨g, 0, none⟩), .int .i64 (r : Int), .agg (B K), .slice none 0 0] w' fun e w'' => ∃ r' : Nat, e = .returned (.tuple #[.int .i64 (r' : Int), .int .i64 0]) ∧ Aw w S w'' g gs room r' (c + 3) 2 [(K, []), (k, [])] := by
  obtain ⟨cs, fr, T, h1, h2, h3, h4, h5, h6⟩ := H
  obtain rfl := h2.one h1.2 h3
  obtain ⟨ss, hss, _⟩ := h2.bes h1.2 hK
  refine (put_any h1 h2 hK (u := .slice none 0 0) (bs := []) (fun _ _ => Reads.nil _) hL (by simp) (fun i => Nat.le_trans (h5 i) (by omega)) (by omega) hss).mono ?_
  rintro e w'' ⟨top, cs', fr', T', rfl, p, hh⟩
  obtain ⟨q1, q2, q3, q4⟩ := pa_second hc hne hss p
  exact ⟨top, rfl, cs', fr', T', hh, p.rt, q1, by omega, fun i => own_step (p.own i) (h5 i) (by omega), by omega⟩

theorem aw_same {w w' : World} {S : List Nat} {g gs room r n m : Nat} {es : List Ent} (H : Aw w S w' g gs room r n m es) (K : List Int) (hK : Key K) (hm : (K, []) ∈ es) (hr : n + 258 ≤ room) : Calls Tryz.prog 26 #[.pointer (some ⟨g, 0, none⟩), .int .i64 (r : Int), .agg (B K), .slice none 0 0] w' fun e w'' => e = .returned (.tuple #[.int .i64 (r : Int), .int .i64 0]) ∧ Below w'.heap.size w' w'' := by
  obtain ⟨cs, fr, T, h1, h2, h3, h4, h5, h6⟩ := H
  have hsm := efin_key h1.2 K T r h2.tree (K, []) (h3.mem_iff.2 hm) rfl
  exact put_same h1 r T h2.tree K hK (.slice none 0 0) [] (Reads.nil _) (h2.refuse (by simp)) h2.root (by omega) hsm

end Go.Proofs.YtlhnodinhmdjnaaGreatDoor
