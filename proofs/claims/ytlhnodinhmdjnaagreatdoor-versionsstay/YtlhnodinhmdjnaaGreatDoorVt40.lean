/- Entries in memory: a slice of pairs, each a key and a value. -/
import Derived.Test.YtlhnodinhmdjnaaGreatDoorVt08
import Derived.Test.YtlhnodinhmdjnaaGreatDoorVt22
import Derived.Test.YtlhnodinhmdjnaaGreatDoorVt38
import Derived.Test.YtlhnodinhmdjnaaGreatDoorVt39
import Derived.Test.YtlhnodinhmdjnaaGreatDoorVt37
import Derived.Test.YtlhnodinhmdjnaaGreatDoorVt35
import Derived.Test.YtlhnodinhmdjnaaGreatDoorVt34
import Derived.Test.YtlhnodinhmdjnaaGreatDoorVt33
import Derived.ChangeSame
import Derived.Deep.Slices
namespace Go.Proofs.YtlhnodinhmdjnaaGreatDoor
set_option maxRecDepth 20000
open Go.RowKit

def e00 : Ent := ([], [])
def encP (k : List Int) (v : Value) : List Value := k.map (Value.int .u8) ++ [v]
theorem encP_length (k : List Int) (v : Value) (h : k.length = 32) : (encP k v).length = 33 := by simp [encP, h]

/-- A slice of entries; V i is the value of the entry i. -/
def PrAt (w : World) (v : Value) (V : Nat → Value) (es : List Ent) : Prop :=
  ∃ a cap, v = .slice a es.length cap ∧ es.length ≤ cap ∧ (0 < es.length → ∃ g off, a = some ⟨g, off, none⟩ ∧ ∀ i, i < es.length → w.rangeAt g (off + i * 33) (encP (es.getD i e00).1 (V i))) ∧
    ∀ i, i < es.length → Key (es.getD i e00).1 ∧ Reads w (V i) (es.getD i e00).2

theorem rng_grow {w w' : World} {g o : Nat} {cs : List Value} (h : w.rangeAt g o cs) (hb : Below w.heap.size w w') : w'.rangeAt g o cs := fun j v hv => (hb.cell (p := ⟨g, o + j, none⟩) (block_lt_of_cell (h j v hv))).trans (h j v hv)

theorem PrAt.grow {w w' : World} {v : Value} {V : Nat → Value} {es : List Ent} (h : PrAt w v V es) (hb : Below w.heap.size w w') : PrAt w' v V es := by
  obtain ⟨a, cap, e, h1, h2, h3⟩ := h
  refine ⟨a, cap, e, h1, fun hp => ?_, fun i hi => ⟨(h3 i hi).1, (h3 i hi).2.grow hb⟩⟩
  obtain ⟨g, off, ea, hr⟩ := h2 hp
  exact ⟨g, off, ea, fun i hi => rng_grow (hr i hi) hb⟩
theorem PrAt.kp {w : World} {v : Value} {V : Nat → Value} {es : List Ent} (h : PrAt w v V es) : Kp w (fun w' => PrAt w' v V es) := fun _ q => h.grow q
theorem PrAt.keys {w : World} {v : Value} {V : Nat → Value} {es : List Ent} (h : PrAt w v V es) : ∀ e ∈ es, Key e.1 := by
  intro e he
  obtain ⟨_, _, _, _, _, h3⟩ := h
  obtain ⟨i, hi, rfl⟩ := List.mem_iff_getElem.1 he
  have := (h3 i hi).1
  simpa [List.getD, hi] using this

/-- May entries be: the ones ahead have the keys ks. -/
def lsE : List (List Int) → List Ent → Int
  | _, [] => 0
  | ks, e :: r => if 1024 < e.2.length then 4 else if e.1 ∈ ks then 6 else lsE (ks ++ [e.1]) r
def errB (es : List Ent) : Int := if 4096 < es.length then 4 else lsE [] es
theorem lsE_step (ks : List (List Int)) (es : List Ent) (k : Nat) (hk : k < es.length) : lsE ks (es.drop k) = if 1024 < (es.getD k e00).2.length then 4 else if (es.getD k e00).1 ∈ ks then 6 else lsE (ks ++ [(es.getD k e00).1]) (es.drop (k + 1)) := by
  rw [List.drop_eq_getElem_cons hk, lsE]
  simp [List.getD, hk]
theorem keys_take (es : List Ent) (k : Nat) (hk : k < es.length) : (es.take (k + 1)).map (·.1) = (es.take k).map (·.1) ++ [(es.getD k e00).1] := by
  rw [List.take_add_one, List.map_append]
  simp [List.getD, hk]

theorem lsE_ok : ∀ (ks : List (List Int)) (es : List Ent), lsE ks es = 0 → (∀ e ∈ es, e.2.length ≤ 1024) ∧ Apart1 es ∧ ∀ e ∈ es, e.1 ∉ ks
  | ks, [], _ => ⟨by simp, List.Pairwise.nil, by simp⟩
  | ks, e :: r, h => by
    rw [lsE] at h
    split at h
    · omega
    · rename_i h1
      split at h
      · omega
      · rename_i h2
        obtain ⟨a, b, c⟩ := lsE_ok _ r h
        refine ⟨fun x hx => ?_, List.pairwise_cons.2 ⟨fun x hx e1 => ?_, b⟩, fun x hx => ?_⟩
        · rcases List.mem_cons.1 hx with rfl | hx
          · omega
          · exact a x hx
        · exact c x hx (by simp [e1])
        · rcases List.mem_cons.1 hx with rfl | hx
          · exact h2
          · exact fun hm => c x hx (by simp [hm])
theorem lsE_of : ∀ (ks : List (List Int)) (es : List Ent), (∀ e ∈ es, e.2.length ≤ 1024) → Apart1 es → (∀ e ∈ es, e.1 ∉ ks) → lsE ks es = 0
  | ks, [], _, _, _ => rfl
  | ks, e :: r, h1, h2, h3 => by
    have a := h1 e (by simp)
    rw [lsE, if_neg (by omega), if_neg (h3 e (by simp))]
    refine lsE_of _ r (fun x hx => h1 x (by simp [hx])) (List.pairwise_cons.1 h2).2 (fun x hx hm => ?_)
    rcases List.mem_append.1 hm with hm | hm
    · exact h3 x (by simp [hx]) hm
    · have : x.1 = e.1 := by simpa using hm
      exact (List.pairwise_cons.1 h2).1 x hx this.symm
theorem lsE_cases : ∀ (ks : List (List Int)) (es : List Ent), lsE ks es = 0 ∨ lsE ks es = 4 ∨ lsE ks es = 6
  | _, [] => .inl rfl
  | ks, e :: r => by
    rw [lsE]
    split
    · exact .inr (.inl rfl)
    · split
      · exact .inr (.inr rfl)
      · exact lsE_cases _ r

theorem size_pair : (Tryz.prog.info? 37).map (·.size) = some 33 := by kernel_rfl

theorem u_pair : ∃ fs, Tryz.prog.underlying 37 = some (.struct fs) := ⟨_, Tryz.underlying37⟩

theorem zero_pair : ∀ w, (zeroValue 37).run Tryz.prog w = .ok (.agg (encP z32 (.slice none 0 0)).toArray) w := zero_of_info (n := 33) (by kernel_rfl) |>.1

theorem encP_one (k : List Int) (a : Option Addr) (l c : Nat) : (encP k (.slice a l c)).toArray.all (·.oneCell') = true := all_oneCell_toArray (fun v hv => by
  unfold encP at hv
  rcases List.mem_append.1 hv with hv | hv
  · obtain ⟨z, _, rfl⟩ := List.mem_map.1 hv
    rfl
  · obtain rfl : v = .slice a l c := by simpa using hv
    rfl)

/-- A pair in a block of its own: its key, its value. -/
theorem pair_key {w : World} {g : Nat} {t : TypeId} {k : List Int} {v : Value} (h : Blk w g t (encP k v).toArray) : w.rangeAt g 0 (B k).toList := by
  intro j u hu
  rw [B_toList] at hu
  have hj : j < (k.map (Value.int .u8)).length := (List.getElem?_eq_some_iff.1 hu).1
  rw [Nat.zero_add, h.cell]
  simp only [encP, List.getElem?_toArray]
  rw [List.getElem?_append_left hj]
  exact hu
theorem pair_val {w : World} {g : Nat} {t : TypeId} {k : List Int} {v : Value} (h : Blk w g t (encP k v).toArray) (hk : k.length = 32) : w.cell? ⟨g, 32, none⟩ = some v := by
  rw [h.cell]
  simp only [encP, List.getElem?_toArray]
  rw [List.getElem?_append_right (by simp [hk])]
  simp [hk]

/-- load of a pair out of a slice. -/
theorem wpList_ldp {ops : Array Oper} {rest : List Oper} {op : Oper} {a : Act} {Q : Exit → Act → World → Prop} (w : World) (hgd : op.guard = none) (x : Operand) (ho : op.op = .load 37 x)
    (g o : Nat) (k : List Int) (v : Value) (hx : a.eval x = .pointer (some ⟨g, o, none⟩)) (h : w.rangeAt g o (encP k v)) (hl : k.length = 32)
    (hk : wpList Tryz.prog ops Q rest (a.put op.dst (.agg (encP k v).toArray)) w) : wpList Tryz.prog ops Q (op :: rest) a w := by
  obtain ⟨fs, hu⟩ := u_pair
  exact wpList_load_mid hgd 37 x ho g o hx (encP k v) _ h hu rfl (by rw [encP_length k v hl]; exact size_pair) hk

/-- load of a key at the front of a block. -/
theorem wpList_ldk {ops : Array Oper} {rest : List Oper} {op : Oper} {a : Act} {Q : Exit → Act → World → Prop} (w : World) (hgd : op.guard = none) (x : Operand) (ho : op.op = .load 23 x)
    (g o : Nat) (k : List Int) (hx : a.eval x = .pointer (some ⟨g, o, none⟩)) (h : w.rangeAt g o (B k).toList) (hl : k.length = 32)
    (hk : wpList Tryz.prog ops Q rest (a.put op.dst (.agg (B k))) w) : wpList Tryz.prog ops Q (op :: rest) a w :=
  wpList_load_mid hgd 23 x ho g o hx (B k).toList _ h Tryz.underlying23 rfl (by rw [B_toList, List.length_map, hl]; exact sz_path) (by simpa using hk)

end Go.Proofs.YtlhnodinhmdjnaaGreatDoor

/- VersionsStay's walk: what has a name stays. -/
namespace Go.Proofs.YtlhnodinhmdjnaaGreatDoor
set_option maxRecDepth 20000
open Go.RowKit

theorem Yi.low {wb w : World} {X : List Nat} {gv b bd g gs : Nat} {ms : Nms} {G : List UInt8 → Tre} {root : Nat} {T : Tre} {kn km : Nat} {k : List UInt8} (h : Yi wb w X gv b bd g gs ms G root T kn km k) : Below wb.heap.size wb w := by
  obtain ⟨cs, fr, h1, _⟩ := h
  exact h1.low
theorem yt_new {wb w : World} {X : List Nat} {gv b g gs : Nat} {G : List UInt8 → Tre} (h : Hv wb w X gv b g gs 5160 [] [] []) : Yt wb (w.alloc (.map #[] 0)) (w.heap.size :: X) gv b w.heap.size g gs [] G 0 .emp 0 0 := by
  have hb := grow_alloc w (.map #[] 0)
  have hz := h.hz.add (x := w.heap.size) hb (Nat.le_refl _) (by simp)
  have hg := h.grow hb
  have hbl := h.vm.lt
  exact ⟨[], [], ⟨⟨hz, List.mem_cons_of_mem _ h.gx, List.mem_cons_of_mem _ h.bx, hg.blk, hg.vm⟩, fun j => by rw [own_nil]; simp [nct], Rt.zero [], (fun _ h => nomatch h), Nat.zero_le _⟩, DM.new w, by show 0 ≤ _; omega, Nat.le_refl _, List.mem_cons_self, by omega⟩
theorem str_not_le {x y : List UInt8} (h : ¬ x ≤ y) : Op.bytesLess (⟨x.toArray⟩ : ByteArray).toList (⟨y.toArray⟩ : ByteArray).toList = false ∧ ¬ (⟨x.toArray⟩ : ByteArray).toList = (⟨y.toArray⟩ : ByteArray).toList := by
  rw [ByteArray.toList_eq, ByteArray.toList_eq, Go.Proofs.bytesLess_eq, decide_eq_false_iff_not]
  exact ⟨fun q => h (List.le_of_lt q), fun e => h (by show x ≤ y; rw [show x = y from e]; exact List.le_refl y)⟩
theorem hash_len14 {x : List Int} (h : x.length = 32) : (Tryz.prog.info? 51).map (·.size) = some (B x).size ∧ (B z32).size = (B x).size := by
  rw [B_size, h, B_size, z32_length]
  exact ⟨size_hash, rfl⟩


set_option maxRecDepth 100000 in
set_option maxHeartbeats 16000000 in
theorem stay_walk {w : World} (hL : Laid w) {v : Value} {l : List Wv} (hv : WvAt w v l) (hsz : l.length ≤ 140737488355328) : Calls Tryz.prog 6 #[v] w fun e w' => e = .returned (.bool true) ∧ Below w.heap.size w w' := by
  obtain ⟨a, c, rfl, hcell, hok⟩ := hv
  have HAW := hidden (awake14_any w hL)
  by_cases h16 : l.length ≤ 16
  case neg =>
    have i1 : (16 : Int) < (l.length : Int) := by omega
    clear hcell hok hL
    go_enter Tryz.func6, Tryz.ntmps6
    go_wp2_with (go_at_call 24; refine HAW.out.mono ?_; rintro e wA ⟨rfl, qA⟩)
    go_ret
    exact ⟨rfl, qA⟩
  obtain ⟨n, hn⟩ : ∃ n, n = l.length := ⟨_, rfl⟩
  have HGet : Hid (∀ k, k < n → ∃ lg lo, a = some ⟨lg, lo, none⟩ ∧ ∃ K ua uc bs s, w.rangeAt lg (lo + k * 34) (wvL ⟨K, .slice ua bs.length uc, bs, s⟩) ∧ Key K ∧ Reads w (.slice ua bs.length uc) bs ∧ s.size ≤ maxLen) := fun k hk => by
    rw [hn] at hk
    obtain ⟨lg, lo, e, hr⟩ := hcell (by omega)
    obtain ⟨q, hq⟩ : ∃ q, l[k]? = some q := ⟨_, List.getElem?_eq_getElem hk⟩
    have h1 := hr k q hq
    have h2 := hok q (List.mem_of_getElem? hq)
    obtain ⟨K, u, bs, s⟩ := q
    obtain ⟨ua, uc, e', _⟩ : ∃ ua uc, u = .slice ua bs.length uc ∧ True := by
      obtain ⟨x, y, e, _⟩ := h2.rd
      exact ⟨x, y, e, trivial⟩
    subst e'
    exact ⟨lg, lo, e, K, ua, uc, bs, s, h1, h2.key, h2.rd, h2.nm⟩
  have H16 : Hid (n ≤ 16) := by rw [hn]; exact h16
  have i1 : ¬ (16 : Int) < (n : Int) := by omega
  have HLD : Hid (∀ w', Below w.heap.size w w' → Laid w') := fun w' hb => hL.grow hb
  rw [← hn]
  clear hcell hok hL h16 hn hsz
  go_enter Tryz.func6, Tryz.ntmps6
  have hmm := @run_makeMap Tryz.prog
  go_wp2_with (first
    | (go_at_call 24; refine HAW.out.mono ?_; rintro e wA ⟨rfl, qA⟩; have HQA := hidden qA; clear qA HAW)
    | (go_at_call 25; refine (hs_new 5160 wA (by omega) (by omega)).mono ?_; rintro e wN ⟨g, gs, rfl, hN⟩; have HNW := hidden (Hz.new hN); clear hN)
    | (go_at_call 22; refine (vnew_ok HNW.out).mono ?_; rintro e wV ⟨gv, b, rfl, hV, bV⟩; have HY0 := hidden (yt_new (G := fun _ => .emp) hV); clear hV bV HNW))
  generalize wV.heap.size = bd at *
  go_loopw [8, 10] (fun rv iv wr => ∃ (k root : Nat) (X : List Nat) (ms : Nms) (G : List UInt8 → Tre) (T : Tre), k ≤ n ∧ iv = .int .i64 (k : Int) ∧ rv = .int .i64 (root : Int) ∧ Hid (Yt wA wr X gv b bd g gs ms G root T k k)) (fun _ iv _ => n - (intOf iv).toNat)
  case atStart => exact ⟨0, 0, _, [], _, .emp, Nat.zero_le _, rfl, rfl, HY0⟩
  case round =>
    clear HY0
    obtain ⟨k, root, X, ms, G, T, hk, rfl, rfl, hY⟩ := hrel
    have hk16 := H16.out
    have hwk : wrap64 ((k : Int) + 1) = ((k + 1 : Nat) : Int) := by rw [Go.IntWalk.wrap64_in _ (by omega)]; rfl
    by_cases hlt : k < n
    case pos =>
      as_aux_lemma =>
        obtain ⟨lg, lo, rfl, K, ua, uc, bs, s, hrg, hK, hrd, hs⟩ := HGet.out k hlt
        have HLw : Hid (∀ w', Below wA.heap.size wA w' → Below w.heap.size w w') := fun w' hb => grow_trans HQA.out hb
        have HR1 : Hid (∀ w', Below wr.heap.size wr w' → w'.rangeAt lg (lo + k * 34) (B K).toList) := fun w' hb => wv_key (rng_grow hrg (HLw.out _ (grow_trans hY.out.low hb)))
        have HR2 : Hid (∀ w', Below wr.heap.size wr w' → w'.cell? ⟨lg, lo + k * 34 + 32, none⟩ = some (.slice ua bs.length uc)) := fun w' hb => wv_val (rng_grow hrg (HLw.out _ (grow_trans hY.out.low hb))) hK.1
        have HC33 : Hid (∀ w', Below wA.heap.size wA w' → w'.cell? ⟨lg, lo + k * 34 + 33, none⟩ = some (.string s)) := fun w' hb => wv_nm (rng_grow hrg (HLw.out _ hb)) hK.1
        have HKL := hidden (pth_ln K hK.1)
        obtain ⟨y, hy⟩ : ∃ y : Int, y = (root : Int) := ⟨_, rfl⟩
        have HLA : Hid (∀ w', Below wA.heap.size wA w' → Laid w') := fun w' hb => HLD.out _ (HLw.out _ hb)
        have HPT : Hid (∀ w', Below wr.heap.size wr w' → Calls Tryz.prog 26 #[.pointer (some ⟨g, 0, none⟩), .int .i64 y, .agg (B K), .slice ua bs.length uc] w' fun e w'' => ∃ (tv er y' : Int) (root' : Nat) (T' : Tre), e = .returned (.tuple #[.int .i64 tv, .int .i64 er]) ∧ y' = (root' : Int) ∧ Yt wA w'' X gv b bd g gs ms G root' T' (k + 1) k ∧ ((er = 0 ∧ y' = tv) ∨ (er = 4 ∧ y' = y))) := fun w' hb => by
          rw [hy]
          refine (yt_put (hY.out.grow hb) hK (fun w' hb => hrd.grow (HLw.out _ hb)) HLA.out (by omega)).mono ?_
          rintro e w'' ⟨tv, er, root', T', rfl, h1, h2⟩
          refine ⟨tv, er, _, root', T', rfl, rfl, h1, h2.imp (fun h => ⟨h.1, h.2.symm⟩) (fun h => ⟨h.1, by rw [h.2]⟩)⟩
        have HN : Hid (∀ w', Calls Tryz.prog 28 #[.string s] w' fun e w'' => e = .returned (.bool (nmOk s)) ∧ w'' = w') := fun w' => name_any s w' hs
        have i2 : (k : Int) < (n : Int) := by omega
        have i0 : (0 : Int) ≤ (k : Int) := by omega
        have hfew : ms.length ≤ k := hY.out.few
        have HFW := hidden hfew
        have HHS := hidden hs
        generalize hmb : bs.length = mb at *
        rw [← hy]
        clear hrg hK hrd hY hy hmb hfew
        obtain ⟨nh, hnh⟩ : ∃ nh, nh = nmHas ms s.data.toList := ⟨_, rfl⟩
        have HOK : Hid (∀ z T' root', Yt wA z X gv b bd g gs ms G root' T' (k + 1) k → ∃ x : List Int, x.length = 32 ∧ (Instr.lookup 75 (.map (some bd)) (.string s) true).run Tryz.prog z = .ok (.tuple #[.agg (B x), .bool nh]) z) := fun z T' root' h => by rw [hnh]; exact yt_ok h hs
        cases hnk : nmOk s
        case false =>
          have HAD : Hid (∀ z T' (root' : Nat), Yt wA z X gv b bd g gs ms G root' T' (k + 1) k → ∀ w', Below z.heap.size z w' → Calls Tryz.prog 27 #[.pointer (some ⟨gv, 0, none⟩), .string s, .int .i64 (root' : Int)] w' fun e w'' => e = .returned (.int .i64 5) ∧ Below w'.heap.size w' w'') := fun z T' root' h w' hb => yt_bad (h.grow hb) hs hnk
          rw [hnk] at HN
          clear hnk hnh hs
          go_wp2_with fail
          refine wp_region_wrote (S := fun w' => Below wr.heap.size wr w') [12] (by kernel_rfl) (below_drewN (Below.refl _ _) 1) (fun hHeld => ?_)
          refine wpAnyW_take0 (i := 0) (v := .pointer (some ⟨g, 0, none⟩)) rfl (by kernel_rfl) (by kernel_rfl) (by kernel_rfl) (by kernel_rfl) (fun _ _ _ h => h) (Or.inl ⟨by rfl, fun w hS => by go_simp⟩) (.inr hHeld) ?_
          simp only [Act.put, List.getElem_toArray, List.getElem_cons_zero, List.setIfInBounds_toArray, List.set_cons_zero, List.set_cons_succ]
          refine wpAnyW_take0 (i := 1) (v := .int .i64 y) rfl (by kernel_rfl) (by kernel_rfl) (by kernel_rfl) (by kernel_rfl) (fun _ _ _ h => h) (Or.inl ⟨by rfl, fun w hS => by go_simp⟩) (.inr hHeld) ?_
          simp only [Act.put, List.getElem_toArray, List.getElem_cons_zero, List.getElem_cons_succ, List.setIfInBounds_toArray, List.set_cons_zero, List.set_cons_succ]
          refine wpAnyW_take0 (i := 2) (v := .slice (some ⟨lg, lo, none⟩) n c) rfl (by kernel_rfl) (by kernel_rfl) (by kernel_rfl) (by kernel_rfl) (fun _ _ _ h => h) (Or.inl ⟨by rfl, fun w hS => by go_simp⟩) (.inr hHeld) ?_
          simp only [Act.put, List.getElem_toArray, List.getElem_cons_zero, List.getElem_cons_succ, List.setIfInBounds_toArray, List.set_cons_zero, List.set_cons_succ]
          refine wpAnyW_take0 (i := 3) (v := .int .i64 (k : Int)) rfl (by kernel_rfl) (by kernel_rfl) (by kernel_rfl) (by kernel_rfl) (fun _ _ _ h => h) (Or.inl ⟨by rfl, fun w hS => by go_simp⟩) (.inr hHeld) ?_
          simp only [Act.put, List.getElem_toArray, List.getElem_cons_zero, List.getElem_cons_succ, List.setIfInBounds_toArray, List.set_cons_zero, List.set_cons_succ]
          refine wpAnyW_take0 (i := 4) (v := .pointer (some ⟨lg, lo + k * 34, none⟩)) rfl (by kernel_rfl) (by kernel_rfl) (by kernel_rfl) (by kernel_rfl) (fun _ _ _ h => h) (Or.inl ⟨by rfl, fun w hS => by go_simp⟩) (.inr hHeld) ?_
          simp only [Act.put, List.getElem_toArray, List.getElem_cons_zero, List.getElem_cons_succ, List.setIfInBounds_toArray, List.set_cons_zero, List.set_cons_succ]
          refine wpAnyW_take0 (i := 5) (v := .pointer (some ⟨lg, lo + k * 34, none⟩)) rfl (by kernel_rfl) (by kernel_rfl) (by kernel_rfl) (by kernel_rfl) (fun _ _ _ h => h) (Or.inl ⟨by rfl, fun w hS => by go_simp⟩) (.inr hHeld) ?_
          simp only [Act.put, List.getElem_toArray, List.getElem_cons_zero, List.getElem_cons_succ, List.setIfInBounds_toArray, List.set_cons_zero, List.set_cons_succ]
          refine wpAnyW_take (i := 6) (v := .agg (B K)) rfl (by kernel_rfl) (by kernel_rfl) (by kernel_rfl) (by kernel_rfl) (by kernel_rfl) (by kernel_rfl) (fun _ _ _ h => h) (yieldsIf_load_mid rfl 23 (.tmp 56) rfl lg (lo + k * 34) rfl (B K).toList _ (fun w hS => HR1.out _ hS) Tryz.underlying23 rfl HKL.out) hHeld ?_
          simp only [Act.put, List.getElem_toArray, List.getElem_cons_zero, List.getElem_cons_succ, List.setIfInBounds_toArray, List.set_cons_zero, List.set_cons_succ]
          refine wpAnyW_take0 (i := 7) (v := .slice (some ⟨lg, lo, none⟩) n c) rfl (by kernel_rfl) (by kernel_rfl) (by kernel_rfl) (by kernel_rfl) (fun _ _ _ h => h) (Or.inl ⟨by rfl, fun w hS => by go_simp⟩) (.inr hHeld) ?_
          simp only [Act.put, List.getElem_toArray, List.getElem_cons_zero, List.getElem_cons_succ, List.setIfInBounds_toArray, List.set_cons_zero, List.set_cons_succ]
          refine wpAnyW_take0 (i := 8) (v := .int .i64 (k : Int)) rfl (by kernel_rfl) (by kernel_rfl) (by kernel_rfl) (by kernel_rfl) (fun _ _ _ h => h) (Or.inl ⟨by rfl, fun w hS => by go_simp⟩) (.inr hHeld) ?_
          simp only [Act.put, List.getElem_toArray, List.getElem_cons_zero, List.getElem_cons_succ, List.setIfInBounds_toArray, List.set_cons_zero, List.set_cons_succ]
          refine wpAnyW_take0 (i := 9) (v := .pointer (some ⟨lg, lo + k * 34, none⟩)) rfl (by kernel_rfl) (by kernel_rfl) (by kernel_rfl) (by kernel_rfl) (fun _ _ _ h => h) (Or.inl ⟨by rfl, fun w hS => by go_simp⟩) (.inr hHeld) ?_
          simp only [Act.put, List.getElem_toArray, List.getElem_cons_zero, List.getElem_cons_succ, List.setIfInBounds_toArray, List.set_cons_zero, List.set_cons_succ]
          refine wpAnyW_take0 (i := 10) (v := .pointer (some ⟨lg, lo + k * 34 + 32, none⟩)) rfl (by kernel_rfl) (by kernel_rfl) (by kernel_rfl) (by kernel_rfl) (fun _ _ _ h => h) (Or.inl ⟨by rfl, fun w hS => by go_simp⟩) (.inr hHeld) ?_
          simp only [Act.put, List.getElem_toArray, List.getElem_cons_zero, List.getElem_cons_succ, List.setIfInBounds_toArray, List.set_cons_zero, List.set_cons_succ]
          refine wpAnyW_take (i := 11) (v := .slice ua mb uc) rfl (by kernel_rfl) (by kernel_rfl) (by kernel_rfl) (by kernel_rfl) (by kernel_rfl) (by kernel_rfl) (fun _ _ _ h => h) (Or.inl ⟨by rfl, fun w hS => by (have q1 := HR2.out _ hS; go_simp)⟩) hHeld ?_
          simp only [Act.put, List.getElem_toArray, List.getElem_cons_zero, List.getElem_cons_succ, List.setIfInBounds_toArray, List.set_cons_zero, List.set_cons_succ]
          refine wpAnyW_one (i := 12) rfl (by kernel_rfl) (by kernel_rfl) (fun KQ hK => ?_)
          go_simp
          refine (HPT.out _ hHeld).mono ?_
          rintro e z ⟨tv, er, y', root', T', rfl, hy', hz, hcs⟩
          have HY' := hidden hy'
          have HZ := hidden hz
          clear hz hy' HPT
          refine hK.out _ _ ?_
          clear hK KQ
          refine wpAnyW_take0 (i := 13) (v := .tuple #[.int .i64 tv, .int .i64 er]) rfl (by kernel_rfl) (by kernel_rfl) (by kernel_rfl) (by kernel_rfl) (fun _ _ _ h => h) (Or.inl ⟨by rfl, fun w hS => by go_simp⟩) (.inl (by kernel_rfl)) ?_
          simp only [Act.put, List.getElem_toArray, List.getElem_cons_zero, List.getElem_cons_succ, List.setIfInBounds_toArray, List.set_cons_zero, List.set_cons_succ]
          refine wpAnyW_take0 (i := 14) (v := .int .i64 tv) rfl (by kernel_rfl) (by kernel_rfl) (by kernel_rfl) (by kernel_rfl) (fun _ _ _ h => h) (Or.inl ⟨by rfl, fun w hS => by go_simp⟩) (.inl (by kernel_rfl)) ?_
          simp only [Act.put, List.getElem_toArray, List.getElem_cons_zero, List.getElem_cons_succ, List.setIfInBounds_toArray, List.set_cons_zero, List.set_cons_succ]
          refine wpAnyW_take0 (i := 15) (v := .int .i64 er) rfl (by kernel_rfl) (by kernel_rfl) (by kernel_rfl) (by kernel_rfl) (fun _ _ _ h => h) (Or.inl ⟨by rfl, fun w hS => by go_simp⟩) (.inl (by kernel_rfl)) ?_
          simp only [Act.put, List.getElem_toArray, List.getElem_cons_zero, List.getElem_cons_succ, List.setIfInBounds_toArray, List.set_cons_zero, List.set_cons_succ]
          refine wpAnyW_take0 (i := 16) (v := .int .i64 tv) rfl (by kernel_rfl) (by kernel_rfl) (by kernel_rfl) (by kernel_rfl) (fun _ _ _ h => h) (Or.inl ⟨by rfl, fun w hS => by go_simp⟩) (.inl (by kernel_rfl)) ?_
          simp only [Act.put, List.getElem_toArray, List.getElem_cons_zero, List.getElem_cons_succ, List.setIfInBounds_toArray, List.set_cons_zero, List.set_cons_succ]
          refine wpAnyW_take0 (i := 17) (v := .int .i64 er) rfl (by kernel_rfl) (by kernel_rfl) (by kernel_rfl) (by kernel_rfl) (fun _ _ _ h => h) (Or.inl ⟨by rfl, fun w hS => by go_simp⟩) (.inl (by kernel_rfl)) ?_
          simp only [Act.put, List.getElem_toArray, List.getElem_cons_zero, List.getElem_cons_succ, List.setIfInBounds_toArray, List.set_cons_zero, List.set_cons_succ]
          refine wpAnyW_done (by kernel_rfl) ?_
          obtain ⟨xd, hx1, hx2⟩ := HOK.out z T' root' HZ.out
          have HXS := hidden (hash_len14 hx1)
          have c33 := HC33.out z HZ.out.low
          have HAd := hidden (HAD.out z T' root' HZ.out)
          rw [← HY'.out] at HAd
          clear hx1 HAD
          rcases hcs with ⟨h1, h2⟩ | ⟨h1, h2⟩
          all_goals
            subst h1 h2
            go_wp2_with (first
              | ((with_reducible refine at_ald 13 ?_); refine wpList_al _ rfl _ rfl _ zero_hash ?_; intro z1 g13 hg hl B13 q1; have HB13 := hidden B13; have HG13 := hidden hg; have HQ1 := hidden q1; clear hg hl B13 q1)
              | ((with_reducible refine at_st 13 ?_); refine wpList_sto _ rfl _ _ _ rfl g13 _ (B xd) rfl rfl HB13.out HXS.out.1 HXS.out.2 (B_one _) ?_; intro z2 B2 r2; have HQ := hidden (below_row HQ1.out r2 HG13.out); replace c33 := HC33.out _ (grow_trans HZ.out.low HQ.out); clear B2 r2 hx2 HB13 HQ1)
              | (go_at_call 27; have hAd := HAd.out _ HQ.out; refine hAd.mono ?_; clear hAd; rintro e z3 ⟨rfl, q3⟩; replace HQ := hidden (grow_trans HQ.out q3); replace c33 := HC33.out _ (grow_trans HZ.out.low HQ.out); clear q3)
              | (go_at_call 28; refine (HN.out _).mono ?_; rintro e w' ⟨rfl, hx⟩; rw [hx]; clear hx w'))
            exact ⟨⟨k + 1, root', X, ms, G, T', by omega, by go_num, by rw [HY'.out], (HZ.out.grow HQ.out).mono (by omega) (by omega)⟩, by simp [intOf]; omega⟩
        case true =>
          cases nh
          case true =>
            have HAD : Hid (∀ z T' (root' : Nat), Yt wA z X gv b bd g gs ms G root' T' (k + 1) k → ∀ w', Below z.heap.size z w' → Calls Tryz.prog 27 #[.pointer (some ⟨gv, 0, none⟩), .string s, .int .i64 (root' : Int)] w' fun e w'' => e = .returned (.int .i64 6) ∧ Below w'.heap.size w' w'') := fun z T' root' h w' hb => yt_there (h.grow hb) hnk hnh.symm
            rw [hnk] at HN
            clear hnk hnh hs
            go_wp2_with fail
            refine wp_region_wrote (S := fun w' => Below wr.heap.size wr w') [12] (by kernel_rfl) (below_drewN (Below.refl _ _) 1) (fun hHeld => ?_)
            refine wpAnyW_take0 (i := 0) (v := .pointer (some ⟨g, 0, none⟩)) rfl (by kernel_rfl) (by kernel_rfl) (by kernel_rfl) (by kernel_rfl) (fun _ _ _ h => h) (Or.inl ⟨by rfl, fun w hS => by go_simp⟩) (.inr hHeld) ?_
            simp only [Act.put, List.getElem_toArray, List.getElem_cons_zero, List.setIfInBounds_toArray, List.set_cons_zero, List.set_cons_succ]
            refine wpAnyW_take0 (i := 1) (v := .int .i64 y) rfl (by kernel_rfl) (by kernel_rfl) (by kernel_rfl) (by kernel_rfl) (fun _ _ _ h => h) (Or.inl ⟨by rfl, fun w hS => by go_simp⟩) (.inr hHeld) ?_
            simp only [Act.put, List.getElem_toArray, List.getElem_cons_zero, List.getElem_cons_succ, List.setIfInBounds_toArray, List.set_cons_zero, List.set_cons_succ]
            refine wpAnyW_take0 (i := 2) (v := .slice (some ⟨lg, lo, none⟩) n c) rfl (by kernel_rfl) (by kernel_rfl) (by kernel_rfl) (by kernel_rfl) (fun _ _ _ h => h) (Or.inl ⟨by rfl, fun w hS => by go_simp⟩) (.inr hHeld) ?_
            simp only [Act.put, List.getElem_toArray, List.getElem_cons_zero, List.getElem_cons_succ, List.setIfInBounds_toArray, List.set_cons_zero, List.set_cons_succ]
            refine wpAnyW_take0 (i := 3) (v := .int .i64 (k : Int)) rfl (by kernel_rfl) (by kernel_rfl) (by kernel_rfl) (by kernel_rfl) (fun _ _ _ h => h) (Or.inl ⟨by rfl, fun w hS => by go_simp⟩) (.inr hHeld) ?_
            simp only [Act.put, List.getElem_toArray, List.getElem_cons_zero, List.getElem_cons_succ, List.setIfInBounds_toArray, List.set_cons_zero, List.set_cons_succ]
            refine wpAnyW_take0 (i := 4) (v := .pointer (some ⟨lg, lo + k * 34, none⟩)) rfl (by kernel_rfl) (by kernel_rfl) (by kernel_rfl) (by kernel_rfl) (fun _ _ _ h => h) (Or.inl ⟨by rfl, fun w hS => by go_simp⟩) (.inr hHeld) ?_
            simp only [Act.put, List.getElem_toArray, List.getElem_cons_zero, List.getElem_cons_succ, List.setIfInBounds_toArray, List.set_cons_zero, List.set_cons_succ]
            refine wpAnyW_take0 (i := 5) (v := .pointer (some ⟨lg, lo + k * 34, none⟩)) rfl (by kernel_rfl) (by kernel_rfl) (by kernel_rfl) (by kernel_rfl) (fun _ _ _ h => h) (Or.inl ⟨by rfl, fun w hS => by go_simp⟩) (.inr hHeld) ?_
            simp only [Act.put, List.getElem_toArray, List.getElem_cons_zero, List.getElem_cons_succ, List.setIfInBounds_toArray, List.set_cons_zero, List.set_cons_succ]
            refine wpAnyW_take (i := 6) (v := .agg (B K)) rfl (by kernel_rfl) (by kernel_rfl) (by kernel_rfl) (by kernel_rfl) (by kernel_rfl) (by kernel_rfl) (fun _ _ _ h => h) (yieldsIf_load_mid rfl 23 (.tmp 56) rfl lg (lo + k * 34) rfl (B K).toList _ (fun w hS => HR1.out _ hS) Tryz.underlying23 rfl HKL.out) hHeld ?_
            simp only [Act.put, List.getElem_toArray, List.getElem_cons_zero, List.getElem_cons_succ, List.setIfInBounds_toArray, List.set_cons_zero, List.set_cons_succ]
            refine wpAnyW_take0 (i := 7) (v := .slice (some ⟨lg, lo, none⟩) n c) rfl (by kernel_rfl) (by kernel_rfl) (by kernel_rfl) (by kernel_rfl) (fun _ _ _ h => h) (Or.inl ⟨by rfl, fun w hS => by go_simp⟩) (.inr hHeld) ?_
            simp only [Act.put, List.getElem_toArray, List.getElem_cons_zero, List.getElem_cons_succ, List.setIfInBounds_toArray, List.set_cons_zero, List.set_cons_succ]
            refine wpAnyW_take0 (i := 8) (v := .int .i64 (k : Int)) rfl (by kernel_rfl) (by kernel_rfl) (by kernel_rfl) (by kernel_rfl) (fun _ _ _ h => h) (Or.inl ⟨by rfl, fun w hS => by go_simp⟩) (.inr hHeld) ?_
            simp only [Act.put, List.getElem_toArray, List.getElem_cons_zero, List.getElem_cons_succ, List.setIfInBounds_toArray, List.set_cons_zero, List.set_cons_succ]
            refine wpAnyW_take0 (i := 9) (v := .pointer (some ⟨lg, lo + k * 34, none⟩)) rfl (by kernel_rfl) (by kernel_rfl) (by kernel_rfl) (by kernel_rfl) (fun _ _ _ h => h) (Or.inl ⟨by rfl, fun w hS => by go_simp⟩) (.inr hHeld) ?_
            simp only [Act.put, List.getElem_toArray, List.getElem_cons_zero, List.getElem_cons_succ, List.setIfInBounds_toArray, List.set_cons_zero, List.set_cons_succ]
            refine wpAnyW_take0 (i := 10) (v := .pointer (some ⟨lg, lo + k * 34 + 32, none⟩)) rfl (by kernel_rfl) (by kernel_rfl) (by kernel_rfl) (by kernel_rfl) (fun _ _ _ h => h) (Or.inl ⟨by rfl, fun w hS => by go_simp⟩) (.inr hHeld) ?_
            simp only [Act.put, List.getElem_toArray, List.getElem_cons_zero, List.getElem_cons_succ, List.setIfInBounds_toArray, List.set_cons_zero, List.set_cons_succ]
            refine wpAnyW_take (i := 11) (v := .slice ua mb uc) rfl (by kernel_rfl) (by kernel_rfl) (by kernel_rfl) (by kernel_rfl) (by kernel_rfl) (by kernel_rfl) (fun _ _ _ h => h) (Or.inl ⟨by rfl, fun w hS => by (have q1 := HR2.out _ hS; go_simp)⟩) hHeld ?_
            simp only [Act.put, List.getElem_toArray, List.getElem_cons_zero, List.getElem_cons_succ, List.setIfInBounds_toArray, List.set_cons_zero, List.set_cons_succ]
            refine wpAnyW_one (i := 12) rfl (by kernel_rfl) (by kernel_rfl) (fun KQ hK => ?_)
            go_simp
            refine (HPT.out _ hHeld).mono ?_
            rintro e z ⟨tv, er, y', root', T', rfl, hy', hz, hcs⟩
            have HY' := hidden hy'
            have HZ := hidden hz
            clear hz hy' HPT
            refine hK.out _ _ ?_
            clear hK KQ
            refine wpAnyW_take0 (i := 13) (v := .tuple #[.int .i64 tv, .int .i64 er]) rfl (by kernel_rfl) (by kernel_rfl) (by kernel_rfl) (by kernel_rfl) (fun _ _ _ h => h) (Or.inl ⟨by rfl, fun w hS => by go_simp⟩) (.inl (by kernel_rfl)) ?_
            simp only [Act.put, List.getElem_toArray, List.getElem_cons_zero, List.getElem_cons_succ, List.setIfInBounds_toArray, List.set_cons_zero, List.set_cons_succ]
            refine wpAnyW_take0 (i := 14) (v := .int .i64 tv) rfl (by kernel_rfl) (by kernel_rfl) (by kernel_rfl) (by kernel_rfl) (fun _ _ _ h => h) (Or.inl ⟨by rfl, fun w hS => by go_simp⟩) (.inl (by kernel_rfl)) ?_
            simp only [Act.put, List.getElem_toArray, List.getElem_cons_zero, List.getElem_cons_succ, List.setIfInBounds_toArray, List.set_cons_zero, List.set_cons_succ]
            refine wpAnyW_take0 (i := 15) (v := .int .i64 er) rfl (by kernel_rfl) (by kernel_rfl) (by kernel_rfl) (by kernel_rfl) (fun _ _ _ h => h) (Or.inl ⟨by rfl, fun w hS => by go_simp⟩) (.inl (by kernel_rfl)) ?_
            simp only [Act.put, List.getElem_toArray, List.getElem_cons_zero, List.getElem_cons_succ, List.setIfInBounds_toArray, List.set_cons_zero, List.set_cons_succ]
            refine wpAnyW_take0 (i := 16) (v := .int .i64 tv) rfl (by kernel_rfl) (by kernel_rfl) (by kernel_rfl) (by kernel_rfl) (fun _ _ _ h => h) (Or.inl ⟨by rfl, fun w hS => by go_simp⟩) (.inl (by kernel_rfl)) ?_
            simp only [Act.put, List.getElem_toArray, List.getElem_cons_zero, List.getElem_cons_succ, List.setIfInBounds_toArray, List.set_cons_zero, List.set_cons_succ]
            refine wpAnyW_take0 (i := 17) (v := .int .i64 er) rfl (by kernel_rfl) (by kernel_rfl) (by kernel_rfl) (by kernel_rfl) (fun _ _ _ h => h) (Or.inl ⟨by rfl, fun w hS => by go_simp⟩) (.inl (by kernel_rfl)) ?_
            simp only [Act.put, List.getElem_toArray, List.getElem_cons_zero, List.getElem_cons_succ, List.setIfInBounds_toArray, List.set_cons_zero, List.set_cons_succ]
            refine wpAnyW_done (by kernel_rfl) ?_
            obtain ⟨xd, hx1, hx2⟩ := HOK.out z T' root' HZ.out
            have HXS := hidden (hash_len14 hx1)
            have c33 := HC33.out z HZ.out.low
            have HAd := hidden (HAD.out z T' root' HZ.out)
            rw [← HY'.out] at HAd
            clear hx1 HAD
            rcases hcs with ⟨h1, h2⟩ | ⟨h1, h2⟩
            all_goals
              subst h1 h2
              go_wp2_with (first
                | ((with_reducible refine at_ald 13 ?_); refine wpList_al _ rfl _ rfl _ zero_hash ?_; intro z1 g13 hg hl B13 q1; have HB13 := hidden B13; have HG13 := hidden hg; have HQ1 := hidden q1; clear hg hl B13 q1)
                | ((with_reducible refine at_st 13 ?_); refine wpList_sto _ rfl _ _ _ rfl g13 _ (B xd) rfl rfl HB13.out HXS.out.1 HXS.out.2 (B_one _) ?_; intro z2 B2 r2; have HQ := hidden (below_row HQ1.out r2 HG13.out); replace c33 := HC33.out _ (grow_trans HZ.out.low HQ.out); clear B2 r2 hx2 HB13 HQ1)
                | (go_at_call 27; have hAd := HAd.out _ HQ.out; refine hAd.mono ?_; clear hAd; rintro e z3 ⟨rfl, q3⟩; replace HQ := hidden (grow_trans HQ.out q3); replace c33 := HC33.out _ (grow_trans HZ.out.low HQ.out); clear q3)
                | (go_at_call 28; refine (HN.out _).mono ?_; rintro e w' ⟨rfl, hx⟩; rw [hx]; clear hx w'))
              exact ⟨⟨k + 1, root', X, ms, G, T', by omega, by go_num, by rw [HY'.out], (HZ.out.grow HQ.out).mono (by omega) (by omega)⟩, by simp [intOf]; omega⟩
          case false =>
            have HAD : Hid (∀ z T' (root' : Nat), Yt wA z X gv b bd g gs ms G root' T' (k + 1) k → ∀ w', Below z.heap.size z w' → Calls Tryz.prog 27 #[.pointer (some ⟨gv, 0, none⟩), .string s, .int .i64 (root' : Int)] w' fun e w'' => e = .returned (.int .i64 0) ∧ Yi wA w'' X gv b bd g gs ms G root' T' (k + 1) k s.data.toList) := fun z T' root' h w' hb => yt_add (h.grow hb) hnk hnh.symm (by omega)
            have HNH := hidden hnh.symm
            rw [hnk] at HN
            have j16 : ms.length < 16 := by have := HFW.out; omega
            have j16' : (ms.length : Int) < 16 := by omega
            clear hnk hnh hs
            go_wp2_with fail
            refine wp_region_wrote (S := fun w' => Below wr.heap.size wr w') [12] (by kernel_rfl) (below_drewN (Below.refl _ _) 1) (fun hHeld => ?_)
            refine wpAnyW_take0 (i := 0) (v := .pointer (some ⟨g, 0, none⟩)) rfl (by kernel_rfl) (by kernel_rfl) (by kernel_rfl) (by kernel_rfl) (fun _ _ _ h => h) (Or.inl ⟨by rfl, fun w hS => by go_simp⟩) (.inr hHeld) ?_
            simp only [Act.put, List.getElem_toArray, List.getElem_cons_zero, List.setIfInBounds_toArray, List.set_cons_zero, List.set_cons_succ]
            refine wpAnyW_take0 (i := 1) (v := .int .i64 y) rfl (by kernel_rfl) (by kernel_rfl) (by kernel_rfl) (by kernel_rfl) (fun _ _ _ h => h) (Or.inl ⟨by rfl, fun w hS => by go_simp⟩) (.inr hHeld) ?_
            simp only [Act.put, List.getElem_toArray, List.getElem_cons_zero, List.getElem_cons_succ, List.setIfInBounds_toArray, List.set_cons_zero, List.set_cons_succ]
            refine wpAnyW_take0 (i := 2) (v := .slice (some ⟨lg, lo, none⟩) n c) rfl (by kernel_rfl) (by kernel_rfl) (by kernel_rfl) (by kernel_rfl) (fun _ _ _ h => h) (Or.inl ⟨by rfl, fun w hS => by go_simp⟩) (.inr hHeld) ?_
            simp only [Act.put, List.getElem_toArray, List.getElem_cons_zero, List.getElem_cons_succ, List.setIfInBounds_toArray, List.set_cons_zero, List.set_cons_succ]
            refine wpAnyW_take0 (i := 3) (v := .int .i64 (k : Int)) rfl (by kernel_rfl) (by kernel_rfl) (by kernel_rfl) (by kernel_rfl) (fun _ _ _ h => h) (Or.inl ⟨by rfl, fun w hS => by go_simp⟩) (.inr hHeld) ?_
            simp only [Act.put, List.getElem_toArray, List.getElem_cons_zero, List.getElem_cons_succ, List.setIfInBounds_toArray, List.set_cons_zero, List.set_cons_succ]
            refine wpAnyW_take0 (i := 4) (v := .pointer (some ⟨lg, lo + k * 34, none⟩)) rfl (by kernel_rfl) (by kernel_rfl) (by kernel_rfl) (by kernel_rfl) (fun _ _ _ h => h) (Or.inl ⟨by rfl, fun w hS => by go_simp⟩) (.inr hHeld) ?_
            simp only [Act.put, List.getElem_toArray, List.getElem_cons_zero, List.getElem_cons_succ, List.setIfInBounds_toArray, List.set_cons_zero, List.set_cons_succ]
            refine wpAnyW_take0 (i := 5) (v := .pointer (some ⟨lg, lo + k * 34, none⟩)) rfl (by kernel_rfl) (by kernel_rfl) (by kernel_rfl) (by kernel_rfl) (fun _ _ _ h => h) (Or.inl ⟨by rfl, fun w hS => by go_simp⟩) (.inr hHeld) ?_
            simp only [Act.put, List.getElem_toArray, List.getElem_cons_zero, List.getElem_cons_succ, List.setIfInBounds_toArray, List.set_cons_zero, List.set_cons_succ]
            refine wpAnyW_take (i := 6) (v := .agg (B K)) rfl (by kernel_rfl) (by kernel_rfl) (by kernel_rfl) (by kernel_rfl) (by kernel_rfl) (by kernel_rfl) (fun _ _ _ h => h) (yieldsIf_load_mid rfl 23 (.tmp 56) rfl lg (lo + k * 34) rfl (B K).toList _ (fun w hS => HR1.out _ hS) Tryz.underlying23 rfl HKL.out) hHeld ?_
            simp only [Act.put, List.getElem_toArray, List.getElem_cons_zero, List.getElem_cons_succ, List.setIfInBounds_toArray, List.set_cons_zero, List.set_cons_succ]
            refine wpAnyW_take0 (i := 7) (v := .slice (some ⟨lg, lo, none⟩) n c) rfl (by kernel_rfl) (by kernel_rfl) (by kernel_rfl) (by kernel_rfl) (fun _ _ _ h => h) (Or.inl ⟨by rfl, fun w hS => by go_simp⟩) (.inr hHeld) ?_
            simp only [Act.put, List.getElem_toArray, List.getElem_cons_zero, List.getElem_cons_succ, List.setIfInBounds_toArray, List.set_cons_zero, List.set_cons_succ]
            refine wpAnyW_take0 (i := 8) (v := .int .i64 (k : Int)) rfl (by kernel_rfl) (by kernel_rfl) (by kernel_rfl) (by kernel_rfl) (fun _ _ _ h => h) (Or.inl ⟨by rfl, fun w hS => by go_simp⟩) (.inr hHeld) ?_
            simp only [Act.put, List.getElem_toArray, List.getElem_cons_zero, List.getElem_cons_succ, List.setIfInBounds_toArray, List.set_cons_zero, List.set_cons_succ]
            refine wpAnyW_take0 (i := 9) (v := .pointer (some ⟨lg, lo + k * 34, none⟩)) rfl (by kernel_rfl) (by kernel_rfl) (by kernel_rfl) (by kernel_rfl) (fun _ _ _ h => h) (Or.inl ⟨by rfl, fun w hS => by go_simp⟩) (.inr hHeld) ?_
            simp only [Act.put, List.getElem_toArray, List.getElem_cons_zero, List.getElem_cons_succ, List.setIfInBounds_toArray, List.set_cons_zero, List.set_cons_succ]
            refine wpAnyW_take0 (i := 10) (v := .pointer (some ⟨lg, lo + k * 34 + 32, none⟩)) rfl (by kernel_rfl) (by kernel_rfl) (by kernel_rfl) (by kernel_rfl) (fun _ _ _ h => h) (Or.inl ⟨by rfl, fun w hS => by go_simp⟩) (.inr hHeld) ?_
            simp only [Act.put, List.getElem_toArray, List.getElem_cons_zero, List.getElem_cons_succ, List.setIfInBounds_toArray, List.set_cons_zero, List.set_cons_succ]
            refine wpAnyW_take (i := 11) (v := .slice ua mb uc) rfl (by kernel_rfl) (by kernel_rfl) (by kernel_rfl) (by kernel_rfl) (by kernel_rfl) (by kernel_rfl) (fun _ _ _ h => h) (Or.inl ⟨by rfl, fun w hS => by (have q1 := HR2.out _ hS; go_simp)⟩) hHeld ?_
            simp only [Act.put, List.getElem_toArray, List.getElem_cons_zero, List.getElem_cons_succ, List.setIfInBounds_toArray, List.set_cons_zero, List.set_cons_succ]
            refine wpAnyW_one (i := 12) rfl (by kernel_rfl) (by kernel_rfl) (fun KQ hK => ?_)
            go_simp
            refine (HPT.out _ hHeld).mono ?_
            rintro e z ⟨tv, er, y', root', T', rfl, hy', hz, hcs⟩
            have HY' := hidden hy'
            have HZ := hidden hz
            clear hz hy' HPT
            refine hK.out _ _ ?_
            clear hK KQ
            refine wpAnyW_take0 (i := 13) (v := .tuple #[.int .i64 tv, .int .i64 er]) rfl (by kernel_rfl) (by kernel_rfl) (by kernel_rfl) (by kernel_rfl) (fun _ _ _ h => h) (Or.inl ⟨by rfl, fun w hS => by go_simp⟩) (.inl (by kernel_rfl)) ?_
            simp only [Act.put, List.getElem_toArray, List.getElem_cons_zero, List.getElem_cons_succ, List.setIfInBounds_toArray, List.set_cons_zero, List.set_cons_succ]
            refine wpAnyW_take0 (i := 14) (v := .int .i64 tv) rfl (by kernel_rfl) (by kernel_rfl) (by kernel_rfl) (by kernel_rfl) (fun _ _ _ h => h) (Or.inl ⟨by rfl, fun w hS => by go_simp⟩) (.inl (by kernel_rfl)) ?_
            simp only [Act.put, List.getElem_toArray, List.getElem_cons_zero, List.getElem_cons_succ, List.setIfInBounds_toArray, List.set_cons_zero, List.set_cons_succ]
            refine wpAnyW_take0 (i := 15) (v := .int .i64 er) rfl (by kernel_rfl) (by kernel_rfl) (by kernel_rfl) (by kernel_rfl) (fun _ _ _ h => h) (Or.inl ⟨by rfl, fun w hS => by go_simp⟩) (.inl (by kernel_rfl)) ?_
            simp only [Act.put, List.getElem_toArray, List.getElem_cons_zero, List.getElem_cons_succ, List.setIfInBounds_toArray, List.set_cons_zero, List.set_cons_succ]
            refine wpAnyW_take0 (i := 16) (v := .int .i64 tv) rfl (by kernel_rfl) (by kernel_rfl) (by kernel_rfl) (by kernel_rfl) (fun _ _ _ h => h) (Or.inl ⟨by rfl, fun w hS => by go_simp⟩) (.inl (by kernel_rfl)) ?_
            simp only [Act.put, List.getElem_toArray, List.getElem_cons_zero, List.getElem_cons_succ, List.setIfInBounds_toArray, List.set_cons_zero, List.set_cons_succ]
            refine wpAnyW_take0 (i := 17) (v := .int .i64 er) rfl (by kernel_rfl) (by kernel_rfl) (by kernel_rfl) (by kernel_rfl) (fun _ _ _ h => h) (Or.inl ⟨by rfl, fun w hS => by go_simp⟩) (.inl (by kernel_rfl)) ?_
            simp only [Act.put, List.getElem_toArray, List.getElem_cons_zero, List.getElem_cons_succ, List.setIfInBounds_toArray, List.set_cons_zero, List.set_cons_succ]
            refine wpAnyW_done (by kernel_rfl) ?_
            obtain ⟨xd, hx1, hx2⟩ := HOK.out z T' root' HZ.out
            have HXS := hidden (hash_len14 hx1)
            have c33 := HC33.out z HZ.out.low
            have HAd := hidden (HAD.out z T' root' HZ.out)
            rw [← HY'.out] at HAd
            clear hx1 HAD
            rcases hcs with ⟨h1, h2⟩ | ⟨h1, h2⟩
            all_goals
              subst h1 h2
              go_wp2_with (first
                | ((with_reducible refine at_ald 13 ?_); refine wpList_al _ rfl _ rfl _ zero_hash ?_; intro z1 g13 hg hl B13 q1; have HB13 := hidden B13; have HG13 := hidden hg; have HQ1 := hidden q1; clear hg hl B13 q1)
                | ((with_reducible refine at_st 13 ?_); refine wpList_sto _ rfl _ _ _ rfl g13 _ (B xd) rfl rfl HB13.out HXS.out.1 HXS.out.2 (B_one _) ?_; intro z2 B2 r2; have HQ := hidden (below_row HQ1.out r2 HG13.out); replace c33 := HC33.out _ (grow_trans HZ.out.low HQ.out); clear B2 r2 hx2 HB13 HQ1)
                | (go_at_call 27; have hAd := HAd.out _ HQ.out; refine hAd.mono ?_; clear hAd; rintro e z3 ⟨rfl, h3⟩; have HI := hidden h3; replace c33 := HC33.out _ h3.low; have hln := fun ty => yi_len h3 ty; clear h3)
                | (go_at_call 28; refine (HN.out _).mono ?_; rintro e w' ⟨rfl, hx⟩; rw [hx]; clear hx w'))
              have HD0 : Hid (Below z3.heap.size z3 (z3.drewN 1)) := below_drewN (Below.refl _ _) 1
              have HC3 : Hid (∀ w', Below z3.heap.size z3 w' → w'.cell? ⟨lg, lo + k * 34 + 33, none⟩ = some (.string s)) := fun w' hb => HC33.out _ (grow_trans HI.out.low hb)
              obtain ⟨D, hD⟩ : ∃ D, D = dgT T' := ⟨_, rfl⟩
              have HDL : Hid ((dgT T').length = 32) := (yi_dig HI.out (HLA.out _ HI.out.low)).1
              have HDG : Hid (∀ w', Below z3.heap.size z3 w' → Calls Tryz.prog 29 #[.pointer (some ⟨g, 0, none⟩), .int .i64 y'] w' fun e w'' => e = .returned (.agg (B D)) ∧ Below w'.heap.size w' w'') := fun w' hb => by
                rw [HY'.out, hD]
                exact (yi_dig (HI.out.grow hb) (HLA.out _ (grow_trans HI.out.low hb))).2
              have HPU : Hid (∀ w', Below z3.heap.size z3 w' → ∃ w'', (Instr.mapUpdate 75 (.map (some bd)) (.string s) (.agg (B D))).run Tryz.prog w' = .ok () w'' ∧ Yt wA w'' X gv b bd g gs (nmPut ms s.data.toList root') (upG G s.data.toList T') root' T' (k + 1) (k + 1)) := fun w' hb => by
                rw [hD]
                exact yi_put (HI.out.grow hb) HHS.out HNH.out HDL.out (by omega)
              clear hD c33 hln
              refine wp_region_last (S := fun w' => Below z3.heap.size z3 w') 9 (by kernel_rfl) (HD0.out) (fun hHeld => ?_)
              refine wpAnyL_take (i := 0) (v := .map (some bd)) rfl (by kernel_rfl) (by kernel_rfl) (by kernel_rfl) (by kernel_rfl) (by kernel_rfl) (fun _ _ _ h => h) (Or.inl ⟨by rfl, fun w hS => by go_simp⟩) hHeld ?_
              simp only [Act.put, List.getElem_toArray, List.getElem_cons_zero, List.setIfInBounds_toArray, List.set_cons_zero, List.set_cons_succ]
              refine wpAnyL_take (i := 1) (v := .slice (some ⟨lg, lo, none⟩) n c) rfl (by kernel_rfl) (by kernel_rfl) (by kernel_rfl) (by kernel_rfl) (by kernel_rfl) (fun _ _ _ h => h) (Or.inl ⟨by rfl, fun w hS => by go_simp⟩) hHeld ?_
              simp only [Act.put, List.getElem_toArray, List.getElem_cons_zero, List.getElem_cons_succ, List.setIfInBounds_toArray, List.set_cons_zero, List.set_cons_succ]
              refine wpAnyL_take (i := 2) (v := .int .i64 (k : Int)) rfl (by kernel_rfl) (by kernel_rfl) (by kernel_rfl) (by kernel_rfl) (by kernel_rfl) (fun _ _ _ h => h) (Or.inl ⟨by rfl, fun w hS => by go_simp⟩) hHeld ?_
              simp only [Act.put, List.getElem_toArray, List.getElem_cons_zero, List.getElem_cons_succ, List.setIfInBounds_toArray, List.set_cons_zero, List.set_cons_succ]
              refine wpAnyL_take (i := 3) (v := .pointer (some ⟨lg, lo + k * 34, none⟩)) rfl (by kernel_rfl) (by kernel_rfl) (by kernel_rfl) (by kernel_rfl) (by kernel_rfl) (fun _ _ _ h => h) (Or.inl ⟨by rfl, fun w hS => by go_simp⟩) hHeld ?_
              simp only [Act.put, List.getElem_toArray, List.getElem_cons_zero, List.getElem_cons_succ, List.setIfInBounds_toArray, List.set_cons_zero, List.set_cons_succ]
              refine wpAnyL_take (i := 4) (v := .pointer (some ⟨lg, lo + k * 34 + 33, none⟩)) rfl (by kernel_rfl) (by kernel_rfl) (by kernel_rfl) (by kernel_rfl) (by kernel_rfl) (fun _ _ _ h => h) (Or.inl ⟨by rfl, fun w hS => by go_simp⟩) hHeld ?_
              simp only [Act.put, List.getElem_toArray, List.getElem_cons_zero, List.getElem_cons_succ, List.setIfInBounds_toArray, List.set_cons_zero, List.set_cons_succ]
              refine wpAnyL_take (i := 5) (v := .string s) rfl (by kernel_rfl) (by kernel_rfl) (by kernel_rfl) (by kernel_rfl) (by kernel_rfl) (fun _ _ _ h => h) (Or.inl ⟨by rfl, fun w hS => by (have q1 := HC3.out _ hS; go_simp)⟩) hHeld ?_
              simp only [Act.put, List.getElem_toArray, List.getElem_cons_zero, List.getElem_cons_succ, List.setIfInBounds_toArray, List.set_cons_zero, List.set_cons_succ]
              refine wpAnyL_take (i := 6) (v := .pointer (some ⟨g, 0, none⟩)) rfl (by kernel_rfl) (by kernel_rfl) (by kernel_rfl) (by kernel_rfl) (by kernel_rfl) (fun _ _ _ h => h) (Or.inl ⟨by rfl, fun w hS => by go_simp⟩) hHeld ?_
              simp only [Act.put, List.getElem_toArray, List.getElem_cons_zero, List.getElem_cons_succ, List.setIfInBounds_toArray, List.set_cons_zero, List.set_cons_succ]
              refine wpAnyL_take (i := 7) (v := .int .i64 y') rfl (by kernel_rfl) (by kernel_rfl) (by kernel_rfl) (by kernel_rfl) (by kernel_rfl) (fun _ _ _ h => h) (Or.inl ⟨by rfl, fun w hS => by go_simp⟩) hHeld ?_
              simp only [Act.put, List.getElem_toArray, List.getElem_cons_zero, List.getElem_cons_succ, List.setIfInBounds_toArray, List.set_cons_zero, List.set_cons_succ]
              refine wpAnyL_one (i := 8) rfl (by kernel_rfl) (fun KQ hK => ?_)
              go_simp
              refine (HDG.out _ HD0.out).mono ?_
              rintro e x1 ⟨rfl, a1⟩
              have d1 := grow_trans HD0.out a1
              obtain ⟨x2, r2, v2⟩ := HPU.out _ d1
              refine hK.out _ _ (d1) (fun hHeld => ?_)
              clear hK KQ
              refine wpAnyL_last rfl (by kernel_rfl) (by kernel_rfl) (fun KQ hK => ?_)
              refine step_mup14 _ x2 rfl 75 _ _ _ rfl (.map (some bd)) (.string s) (.agg (B D)) rfl rfl rfl r2 ?_
              refine hK.out _ _ ?_
              clear hK KQ
              go_wp2
              exact ⟨⟨k + 1, root', X, _, _, T', by omega, by go_num, by rw [HY'.out], v2⟩, by simp [intOf]; omega⟩
    case neg =>
      as_aux_lemma =>
        obtain rfl : k = n := by omega
        have HLA : Hid (∀ w', Below wA.heap.size wA w' → Laid w') := fun w' hb => HLD.out _ (grow_trans HQA.out hb)
        have HNM := hidden (yt_names hY.out)
        clear hY hlt HGet
        go_wp2_with (go_at_call 30; refine HNM.out.mono ?_; rintro e w2 ⟨na, nc, X', cs, fr, rfl, hZ⟩; have HZ := hidden hZ; have hln := fun ty => hZ.dm.len ty; clear hZ HNM; obtain ⟨m, hm⟩ : ∃ m, m = ms.length := ⟨_, rfl⟩; rw [← hm] at hln ⊢; have HM := hidden hm; clear hm)
        have hm16 : m ≤ 16 := by have := HZ.out.sv.few; have := HM.out; omega
        clear hln
        go_loopw [17] (fun iv wr => ∃ k : Nat, k ≤ m ∧ iv = .int .i64 (k : Int) ∧ Hid (Below w2.heap.size w2 wr)) (fun iv _ => m - (intOf iv).toNat)
        case atStart => exact ⟨0, Nat.zero_le _, rfl, Below.refl _ _⟩
        case round =>
          clear hwk hk
          obtain ⟨k, hk, rfl, hB⟩ := hrel
          have hwk : wrap64 ((k : Int) + 1) = ((k + 1 : Nat) : Int) := by rw [Go.IntWalk.wrap64_in _ (by omega)]; rfl
          by_cases hlt : k < m
          case pos =>
            as_aux_lemma =>
              obtain ⟨gn, on, rfl, _, _, hcell⟩ := HZ.out.nb (by rw [← HM.out]; omega)
              have hks : k < (nmSort ms).length := by rw [nmSort_len, ← HM.out]; exact hlt
              obtain ⟨x, hx⟩ : ∃ x, (nmSort ms)[k]? = some x := ⟨_, List.getElem?_eq_getElem hks⟩
              obtain ⟨s, hs⟩ : ∃ s : ByteArray, s = ⟨x.toArray⟩ := ⟨_, rfl⟩
              obtain ⟨v, hv⟩ : ∃ v : Int, v = (rtOf ms x : Int) := ⟨_, rfl⟩
              obtain ⟨D, hD⟩ : ∃ D, D = dgT (G x) := ⟨_, rfl⟩
              have HZr : Hid (∀ w', Below wr.heap.size wr w' → Zs wA w' X' gv b bd g gs (some ⟨gn, on, none⟩) ms G root T cs fr) := fun w' hb => HZ.out.grow (grow_trans hB.out hb)
              have HCX : Hid (∀ w', Below wr.heap.size wr w' → w'.cell? ⟨gn, on + k, none⟩ = some (.string s)) := fun w' hb => by
                rw [hs]
                exact below_cell (grow_trans hB.out hb) (hcell k x hx)
              have HRT : Hid (Calls Tryz.prog 31 #[.pointer (some ⟨gv, 0, none⟩), .string s] wr fun e w' => e = .returned (.tuple #[.int .i64 v, .int .i64 0]) ∧ w' = wr) := by
                rw [hs, hv]
                exact zs_root (HZr.out _ (Below.refl _ _)) hx
              have HDG : Hid (∀ w', Below wr.heap.size wr w' → Calls Tryz.prog 29 #[.pointer (some ⟨g, 0, none⟩), .int .i64 v] w' fun e w'' => e = .returned (.agg (B D)) ∧ Below w'.heap.size w' w'') := fun w' hb => by
                rw [hv, hD]
                exact (zs_dig (HZr.out _ hb) (HLA.out _ (HZr.out _ hb).sv.low) hx).2
              have hDl : D.length = 32 := by
                rw [hD]
                exact (zs_dig (HZr.out _ (Below.refl _ _)) (HLA.out _ (HZr.out _ (Below.refl _ _)).sv.low) hx).1
              have HLK : Hid (∀ w', Below wr.heap.size wr w' → (Instr.lookup 75 (.map (some bd)) (.string s) false).run Tryz.prog w' = .ok (.agg (B D)) w') := fun w' hb => by
                rw [hs, hD]
                exact zs_look (HZr.out _ hb) hx
              have HEQ : Hid (∀ w, (Op.equalIn 10000 51 (.agg (B D)) (.agg (B D))).run Tryz.prog w = .ok true w) := fun w => by have := hash_eq D D hDl hDl w; simpa using this
              have HD0 : Hid (Below wr.heap.size wr (wr.drewN 1)) := below_drewN (Below.refl _ _) 1
              have cx := HCX.out _ (Below.refl _ _)
              have i2 : (k : Int) < (m : Int) := by omega
              have i0 : (0 : Int) ≤ (k : Int) := by omega
              by_cases hk0 : k = 0
              case pos =>
                have z0 : ¬ (0 : Int) < (k : Int) := by omega
                have z0n : ¬ 0 < k := by omega
                clear hks hx hv hD hcell hDl hs hk0
                go_wp2_with (go_at_call 31; refine HRT.out.mono ?_; rintro e w' ⟨rfl, hx⟩; rw [hx]; clear hx w')
                refine wp_region_held_drew (S := fun w' => Below wr.heap.size wr w') (by kernel_rfl) (below_drewN (Below.refl _ _) 1) (fun hHeld => ?_)
                refine wpAnyH_take (i := 0) (v := .int .i64 0) rfl (by kernel_rfl) (by kernel_rfl) (by kernel_rfl) (fun _ _ _ h => h) (Or.inl ⟨by rfl, fun w hS => by go_simp⟩) hHeld ?_
                simp only [Act.put, List.getElem_toArray, List.getElem_cons_zero, List.setIfInBounds_toArray, List.set_cons_zero, List.set_cons_succ]
                refine wpAnyH_take (i := 1) (v := .bool false) rfl (by kernel_rfl) (by kernel_rfl) (by kernel_rfl) (fun _ _ _ h => h) (Or.inl ⟨by rfl, fun w hS => by go_simp⟩) hHeld ?_
                simp only [Act.put, List.getElem_toArray, List.getElem_cons_zero, List.getElem_cons_succ, List.setIfInBounds_toArray, List.set_cons_zero, List.set_cons_succ]
                refine wpAnyH_take (i := 2) (v := .bool false) rfl (by kernel_rfl) (by kernel_rfl) (by kernel_rfl) (fun _ _ _ h => h) (Or.inl ⟨by rfl, fun w hS => by go_simp⟩) hHeld ?_
                simp only [Act.put, List.getElem_toArray, List.getElem_cons_zero, List.getElem_cons_succ, List.setIfInBounds_toArray, List.set_cons_zero, List.set_cons_succ]
                refine wpAnyH_take (i := 3) (v := .pointer (some ⟨g, 0, none⟩)) rfl (by kernel_rfl) (by kernel_rfl) (by kernel_rfl) (fun _ _ _ h => h) (Or.inl ⟨by rfl, fun w hS => by go_simp⟩) hHeld ?_
                simp only [Act.put, List.getElem_toArray, List.getElem_cons_zero, List.getElem_cons_succ, List.setIfInBounds_toArray, List.set_cons_zero, List.set_cons_succ]
                refine wpAnyH_take (i := 4) (v := .int .i64 v) rfl (by kernel_rfl) (by kernel_rfl) (by kernel_rfl) (fun _ _ _ h => h) (Or.inl ⟨by rfl, fun w hS => by go_simp⟩) hHeld ?_
                simp only [Act.put, List.getElem_toArray, List.getElem_cons_zero, List.getElem_cons_succ, List.setIfInBounds_toArray, List.set_cons_zero, List.set_cons_succ]
                refine wpAnyH_take (i := 6) (v := .map (some bd)) rfl (by kernel_rfl) (by kernel_rfl) (by kernel_rfl) (fun _ _ _ h => h) (Or.inl ⟨by rfl, fun w hS => by go_simp⟩) hHeld ?_
                simp only [Act.put, List.getElem_toArray, List.getElem_cons_zero, List.getElem_cons_succ, List.setIfInBounds_toArray, List.set_cons_zero, List.set_cons_succ]
                refine wpAnyH_take (i := 7) (v := .slice (some ⟨gn, on, none⟩) m nc) rfl (by kernel_rfl) (by kernel_rfl) (by kernel_rfl) (fun _ _ _ h => h) (Or.inl ⟨by rfl, fun w hS => by go_simp⟩) hHeld ?_
                simp only [Act.put, List.getElem_toArray, List.getElem_cons_zero, List.getElem_cons_succ, List.setIfInBounds_toArray, List.set_cons_zero, List.set_cons_succ]
                refine wpAnyH_take (i := 8) (v := .int .i64 (k : Int)) rfl (by kernel_rfl) (by kernel_rfl) (by kernel_rfl) (fun _ _ _ h => h) (Or.inl ⟨by rfl, fun w hS => by go_simp⟩) hHeld ?_
                simp only [Act.put, List.getElem_toArray, List.getElem_cons_zero, List.getElem_cons_succ, List.setIfInBounds_toArray, List.set_cons_zero, List.set_cons_succ]
                refine wpAnyH_take (i := 9) (v := .pointer (some ⟨gn, on + k, none⟩)) rfl (by kernel_rfl) (by kernel_rfl) (by kernel_rfl) (fun _ _ _ h => h) (Or.inl ⟨by rfl, fun w hS => by go_simp⟩) hHeld ?_
                simp only [Act.put, List.getElem_toArray, List.getElem_cons_zero, List.getElem_cons_succ, List.setIfInBounds_toArray, List.set_cons_zero, List.set_cons_succ]
                refine wpAnyH_take (i := 10) (v := .string s) rfl (by kernel_rfl) (by kernel_rfl) (by kernel_rfl) (fun _ _ _ h => h) (Or.inl ⟨by rfl, fun w hS => by (have q1 := HCX.out _ hS; go_simp)⟩) hHeld ?_
                simp only [Act.put, List.getElem_toArray, List.getElem_cons_zero, List.getElem_cons_succ, List.setIfInBounds_toArray, List.set_cons_zero, List.set_cons_succ]
                refine wpAnyH_take (i := 11) (v := .agg (B D)) rfl (by kernel_rfl) (by kernel_rfl) (by kernel_rfl) (fun _ _ _ h => h) (Or.inl ⟨by rfl, fun w hS => by (have q1 := HLK.out _ hS; go_simp)⟩) hHeld ?_
                simp only [Act.put, List.getElem_toArray, List.getElem_cons_zero, List.getElem_cons_succ, List.setIfInBounds_toArray, List.set_cons_zero, List.set_cons_succ]
                refine wpAnyH_ready (rs := [5]) (by kernel_rfl) (by simp) ?_
                refine AllReadyH.cons rfl (fun KQ hK => ?_) AllReadyH.nil
                go_simp
                refine (HDG.out _ HD0.out).mono ?_
                rintro e x1 ⟨rfl, a1⟩
                have d1 := grow_trans HD0.out a1
                refine hK.out _ _ (d1) (fun hHeld => ?_)
                clear hK KQ
                refine wpAnyH_take (i := 12) (v := .bool false) rfl (by kernel_rfl) (by kernel_rfl) (by kernel_rfl) (fun _ _ _ h => h) (Or.inl ⟨by rfl, fun w hS => by (have q1 := HEQ.out w; go_simp)⟩) hHeld ?_
                simp only [Act.put, List.getElem_toArray, List.getElem_cons_zero, List.getElem_cons_succ, List.setIfInBounds_toArray, List.set_cons_zero, List.set_cons_succ]
                refine wpAnyH_take (i := 13) (v := .bool false) rfl (by kernel_rfl) (by kernel_rfl) (by kernel_rfl) (fun _ _ _ h => h) (Or.inl ⟨by rfl, fun w hS => by go_simp⟩) hHeld ?_
                simp only [Act.put, List.getElem_toArray, List.getElem_cons_zero, List.getElem_cons_succ, List.setIfInBounds_toArray, List.set_cons_zero, List.set_cons_succ]
                refine wpAnyH_take (i := 14) (v := .bool false) rfl (by kernel_rfl) (by kernel_rfl) (by kernel_rfl) (fun _ _ _ h => h) (Or.inl ⟨by rfl, fun w hS => by go_simp⟩) hHeld ?_
                simp only [Act.put, List.getElem_toArray, List.getElem_cons_zero, List.getElem_cons_succ, List.setIfInBounds_toArray, List.set_cons_zero, List.set_cons_succ]
                refine wpAnyH_take (i := 15) (v := .int .i64 (k : Int)) rfl (by kernel_rfl) (by kernel_rfl) (by kernel_rfl) (fun _ _ _ h => h) (Or.inl ⟨by rfl, fun w hS => by go_simp⟩) hHeld ?_
                simp only [Act.put, List.getElem_toArray, List.getElem_cons_zero, List.getElem_cons_succ, List.setIfInBounds_toArray, List.set_cons_zero, List.set_cons_succ]
                refine wpAnyH_take (i := 16) (v := .bool false) rfl (by kernel_rfl) (by kernel_rfl) (by kernel_rfl) (fun _ _ _ h => h) (Or.inl ⟨by rfl, fun w hS => by go_simp⟩) hHeld ?_
                simp only [Act.put, List.getElem_toArray, List.getElem_cons_zero, List.getElem_cons_succ, List.setIfInBounds_toArray, List.set_cons_zero, List.set_cons_succ]
                refine wpAnyH_take (i := 17) (v := .bool false) rfl (by kernel_rfl) (by kernel_rfl) (by kernel_rfl) (fun _ _ _ h => h) (Or.inl ⟨by rfl, fun w hS => by go_simp⟩) hHeld ?_
                simp only [Act.put, List.getElem_toArray, List.getElem_cons_zero, List.getElem_cons_succ, List.setIfInBounds_toArray, List.set_cons_zero, List.set_cons_succ]
                refine wpAnyH_take (i := 18) (v := undef) rfl (by kernel_rfl) (by kernel_rfl) (by kernel_rfl) (fun _ _ _ h => h) (Or.inr ⟨by rfl, rfl⟩) hHeld ?_
                simp only [Act.put, List.getElem_toArray, List.getElem_cons_zero, List.getElem_cons_succ, List.setIfInBounds_toArray, List.set_cons_zero, List.set_cons_succ]
                refine wpAnyH_take (i := 19) (v := undef) rfl (by kernel_rfl) (by kernel_rfl) (by kernel_rfl) (fun _ _ _ h => h) (Or.inr ⟨by rfl, rfl⟩) hHeld ?_
                simp only [Act.put, List.getElem_toArray, List.getElem_cons_zero, List.getElem_cons_succ, List.setIfInBounds_toArray, List.set_cons_zero, List.set_cons_succ]
                refine wpAnyH_take (i := 20) (v := undef) rfl (by kernel_rfl) (by kernel_rfl) (by kernel_rfl) (fun _ _ _ h => h) (Or.inr ⟨by rfl, rfl⟩) hHeld ?_
                simp only [Act.put, List.getElem_toArray, List.getElem_cons_zero, List.getElem_cons_succ, List.setIfInBounds_toArray, List.set_cons_zero, List.set_cons_succ]
                refine wpAnyH_take (i := 21) (v := undef) rfl (by kernel_rfl) (by kernel_rfl) (by kernel_rfl) (fun _ _ _ h => h) (Or.inr ⟨by rfl, rfl⟩) hHeld ?_
                simp only [Act.put, List.getElem_toArray, List.getElem_cons_zero, List.getElem_cons_succ, List.setIfInBounds_toArray, List.set_cons_zero, List.set_cons_succ]
                refine wpAnyH_take (i := 22) (v := undef) rfl (by kernel_rfl) (by kernel_rfl) (by kernel_rfl) (fun _ _ _ h => h) (Or.inr ⟨by rfl, rfl⟩) hHeld ?_
                simp only [Act.put, List.getElem_toArray, List.getElem_cons_zero, List.getElem_cons_succ, List.setIfInBounds_toArray, List.set_cons_zero, List.set_cons_succ]
                refine wpAnyH_take (i := 23) (v := undef) rfl (by kernel_rfl) (by kernel_rfl) (by kernel_rfl) (fun _ _ _ h => h) (Or.inr ⟨by rfl, rfl⟩) hHeld ?_
                simp only [Act.put, List.getElem_toArray, List.getElem_cons_zero, List.getElem_cons_succ, List.setIfInBounds_toArray, List.set_cons_zero, List.set_cons_succ]
                refine wpAnyH_take (i := 24) (v := undef) rfl (by kernel_rfl) (by kernel_rfl) (by kernel_rfl) (fun _ _ _ h => h) (Or.inr ⟨by rfl, rfl⟩) hHeld ?_
                simp only [Act.put, List.getElem_toArray, List.getElem_cons_zero, List.getElem_cons_succ, List.setIfInBounds_toArray, List.set_cons_zero, List.set_cons_succ]
                refine wpAnyH_take (i := 25) (v := undef) rfl (by kernel_rfl) (by kernel_rfl) (by kernel_rfl) (fun _ _ _ h => h) (Or.inr ⟨by rfl, rfl⟩) hHeld ?_
                simp only [Act.put, List.getElem_toArray, List.getElem_cons_zero, List.getElem_cons_succ, List.setIfInBounds_toArray, List.set_cons_zero, List.set_cons_succ]
                refine wpAnyH_take (i := 26) (v := undef) rfl (by kernel_rfl) (by kernel_rfl) (by kernel_rfl) (fun _ _ _ h => h) (Or.inr ⟨by rfl, rfl⟩) hHeld ?_
                simp only [Act.put, List.getElem_toArray, List.getElem_cons_zero, List.getElem_cons_succ, List.setIfInBounds_toArray, List.set_cons_zero, List.set_cons_succ]
                refine wpAnyH_take (i := 27) (v := undef) rfl (by kernel_rfl) (by kernel_rfl) (by kernel_rfl) (fun _ _ _ h => h) (Or.inr ⟨by rfl, rfl⟩) hHeld ?_
                simp only [Act.put, List.getElem_toArray, List.getElem_cons_zero, List.getElem_cons_succ, List.setIfInBounds_toArray, List.set_cons_zero, List.set_cons_succ]
                refine wpAnyH_take (i := 28) (v := .bool false) rfl (by kernel_rfl) (by kernel_rfl) (by kernel_rfl) (fun _ _ _ h => h) (Or.inl ⟨by rfl, fun w hS => by go_simp⟩) hHeld ?_
                simp only [Act.put, List.getElem_toArray, List.getElem_cons_zero, List.getElem_cons_succ, List.setIfInBounds_toArray, List.set_cons_zero, List.set_cons_succ]
                refine wpAnyH_take (i := 29) (v := .bool false) rfl (by kernel_rfl) (by kernel_rfl) (by kernel_rfl) (fun _ _ _ h => h) (Or.inl ⟨by rfl, fun w hS => by go_simp⟩) hHeld ?_
                simp only [Act.put, List.getElem_toArray, List.getElem_cons_zero, List.getElem_cons_succ, List.setIfInBounds_toArray, List.set_cons_zero, List.set_cons_succ]
                refine wpAnyH_done (by kernel_rfl) ?_ _
                go_wp2
                exact ⟨⟨k + 1, by omega, by go_num, grow_trans hB.out d1⟩, by simp [intOf]; omega⟩
              case neg =>
                obtain ⟨k1, hk1⟩ : ∃ k1, k = k1 + 1 := ⟨k - 1, by omega⟩
                obtain ⟨x0, hx0⟩ : ∃ x0, (nmSort ms)[k1]? = some x0 := ⟨_, List.getElem?_eq_getElem (by omega)⟩
                obtain ⟨s0, hs0⟩ : ∃ s0 : ByteArray, s0 = ⟨x0.toArray⟩ := ⟨_, rfl⟩
                have HC0 : Hid (∀ w', Below wr.heap.size wr w' → w'.cell? ⟨gn, on + k1, none⟩ = some (.string s0)) := fun w' hb => by
                  rw [hs0]
                  exact below_cell (grow_trans hB.out hb) (hcell k1 x0 hx0)
                have hle := nmSort_lt HZ.out.nd hx0 (by rw [← hk1]; exact hx)
                have z0 : (0 : Int) < (k : Int) := by omega
                have i3 : (k1 : Int) < (m : Int) := by omega
                have i4 : (0 : Int) ≤ (k1 : Int) := by omega
                have hkk : (k : Int) - 1 = (k1 : Int) := by omega
                have hbd : -9223372036854775808 ≤ (k : Int) - 1 ∧ (k : Int) - 1 ≤ 9223372036854775807 := by omega
                have hsub2 : wrap64 ((k : Int) - 1) = (k1 : Int) := (Go.IntWalk.wrap64_in _ hbd).trans hkk
                have hsub : IntKind.i64.wrap ((k : Int) - 1) = (k1 : Int) := (Go.IntWalk.i64_left _).trans hsub2
                have HLE : Hid (Op.bytesLess s.toList s0.toList = false ∧ ¬ s.toList = s0.toList) := by rw [hs, hs0]; exact str_not_le hle
                have z0n : 0 < k := by omega
                clear hkk hbd hle
                clear hks hx hv hD hcell hDl hk1 hx0 hk0 hs hs0
                go_wp2_with (go_at_call 31; refine HRT.out.mono ?_; rintro e w' ⟨rfl, hx⟩; rw [hx]; clear hx w')
                refine wp_region_held_drew (S := fun w' => Below wr.heap.size wr w') (by kernel_rfl) (below_drewN (Below.refl _ _) 1) (fun hHeld => ?_)
                refine wpAnyH_take (i := 0) (v := .int .i64 0) rfl (by kernel_rfl) (by kernel_rfl) (by kernel_rfl) (fun _ _ _ h => h) (Or.inl ⟨by rfl, fun w hS => by go_simp⟩) hHeld ?_
                simp only [Act.put, List.getElem_toArray, List.getElem_cons_zero, List.setIfInBounds_toArray, List.set_cons_zero, List.set_cons_succ]
                refine wpAnyH_take (i := 1) (v := .bool false) rfl (by kernel_rfl) (by kernel_rfl) (by kernel_rfl) (fun _ _ _ h => h) (Or.inl ⟨by rfl, fun w hS => by go_simp⟩) hHeld ?_
                simp only [Act.put, List.getElem_toArray, List.getElem_cons_zero, List.getElem_cons_succ, List.setIfInBounds_toArray, List.set_cons_zero, List.set_cons_succ]
                refine wpAnyH_take (i := 2) (v := .bool false) rfl (by kernel_rfl) (by kernel_rfl) (by kernel_rfl) (fun _ _ _ h => h) (Or.inl ⟨by rfl, fun w hS => by go_simp⟩) hHeld ?_
                simp only [Act.put, List.getElem_toArray, List.getElem_cons_zero, List.getElem_cons_succ, List.setIfInBounds_toArray, List.set_cons_zero, List.set_cons_succ]
                refine wpAnyH_take (i := 3) (v := .pointer (some ⟨g, 0, none⟩)) rfl (by kernel_rfl) (by kernel_rfl) (by kernel_rfl) (fun _ _ _ h => h) (Or.inl ⟨by rfl, fun w hS => by go_simp⟩) hHeld ?_
                simp only [Act.put, List.getElem_toArray, List.getElem_cons_zero, List.getElem_cons_succ, List.setIfInBounds_toArray, List.set_cons_zero, List.set_cons_succ]
                refine wpAnyH_take (i := 4) (v := .int .i64 v) rfl (by kernel_rfl) (by kernel_rfl) (by kernel_rfl) (fun _ _ _ h => h) (Or.inl ⟨by rfl, fun w hS => by go_simp⟩) hHeld ?_
                simp only [Act.put, List.getElem_toArray, List.getElem_cons_zero, List.getElem_cons_succ, List.setIfInBounds_toArray, List.set_cons_zero, List.set_cons_succ]
                refine wpAnyH_take (i := 6) (v := .map (some bd)) rfl (by kernel_rfl) (by kernel_rfl) (by kernel_rfl) (fun _ _ _ h => h) (Or.inl ⟨by rfl, fun w hS => by go_simp⟩) hHeld ?_
                simp only [Act.put, List.getElem_toArray, List.getElem_cons_zero, List.getElem_cons_succ, List.setIfInBounds_toArray, List.set_cons_zero, List.set_cons_succ]
                refine wpAnyH_take (i := 7) (v := .slice (some ⟨gn, on, none⟩) m nc) rfl (by kernel_rfl) (by kernel_rfl) (by kernel_rfl) (fun _ _ _ h => h) (Or.inl ⟨by rfl, fun w hS => by go_simp⟩) hHeld ?_
                simp only [Act.put, List.getElem_toArray, List.getElem_cons_zero, List.getElem_cons_succ, List.setIfInBounds_toArray, List.set_cons_zero, List.set_cons_succ]
                refine wpAnyH_take (i := 8) (v := .int .i64 (k : Int)) rfl (by kernel_rfl) (by kernel_rfl) (by kernel_rfl) (fun _ _ _ h => h) (Or.inl ⟨by rfl, fun w hS => by go_simp⟩) hHeld ?_
                simp only [Act.put, List.getElem_toArray, List.getElem_cons_zero, List.getElem_cons_succ, List.setIfInBounds_toArray, List.set_cons_zero, List.set_cons_succ]
                refine wpAnyH_take (i := 9) (v := .pointer (some ⟨gn, on + k, none⟩)) rfl (by kernel_rfl) (by kernel_rfl) (by kernel_rfl) (fun _ _ _ h => h) (Or.inl ⟨by rfl, fun w hS => by go_simp⟩) hHeld ?_
                simp only [Act.put, List.getElem_toArray, List.getElem_cons_zero, List.getElem_cons_succ, List.setIfInBounds_toArray, List.set_cons_zero, List.set_cons_succ]
                refine wpAnyH_take (i := 10) (v := .string s) rfl (by kernel_rfl) (by kernel_rfl) (by kernel_rfl) (fun _ _ _ h => h) (Or.inl ⟨by rfl, fun w hS => by (have q1 := HCX.out _ hS; go_simp)⟩) hHeld ?_
                simp only [Act.put, List.getElem_toArray, List.getElem_cons_zero, List.getElem_cons_succ, List.setIfInBounds_toArray, List.set_cons_zero, List.set_cons_succ]
                refine wpAnyH_take (i := 11) (v := .agg (B D)) rfl (by kernel_rfl) (by kernel_rfl) (by kernel_rfl) (fun _ _ _ h => h) (Or.inl ⟨by rfl, fun w hS => by (have q1 := HLK.out _ hS; go_simp)⟩) hHeld ?_
                simp only [Act.put, List.getElem_toArray, List.getElem_cons_zero, List.getElem_cons_succ, List.setIfInBounds_toArray, List.set_cons_zero, List.set_cons_succ]
                refine wpAnyH_ready (rs := [5]) (by kernel_rfl) (by simp) ?_
                refine AllReadyH.cons rfl (fun KQ hK => ?_) AllReadyH.nil
                go_simp
                refine (HDG.out _ HD0.out).mono ?_
                rintro e x1 ⟨rfl, a1⟩
                have d1 := grow_trans HD0.out a1
                refine hK.out _ _ (d1) (fun hHeld => ?_)
                clear hK KQ
                refine wpAnyH_take (i := 12) (v := .bool false) rfl (by kernel_rfl) (by kernel_rfl) (by kernel_rfl) (fun _ _ _ h => h) (Or.inl ⟨by rfl, fun w hS => by (have q1 := HEQ.out w; go_simp)⟩) hHeld ?_
                simp only [Act.put, List.getElem_toArray, List.getElem_cons_zero, List.getElem_cons_succ, List.setIfInBounds_toArray, List.set_cons_zero, List.set_cons_succ]
                refine wpAnyH_take (i := 13) (v := .bool false) rfl (by kernel_rfl) (by kernel_rfl) (by kernel_rfl) (fun _ _ _ h => h) (Or.inl ⟨by rfl, fun w hS => by go_simp⟩) hHeld ?_
                simp only [Act.put, List.getElem_toArray, List.getElem_cons_zero, List.getElem_cons_succ, List.setIfInBounds_toArray, List.set_cons_zero, List.set_cons_succ]
                refine wpAnyH_take (i := 14) (v := .bool false) rfl (by kernel_rfl) (by kernel_rfl) (by kernel_rfl) (fun _ _ _ h => h) (Or.inl ⟨by rfl, fun w hS => by go_simp⟩) hHeld ?_
                simp only [Act.put, List.getElem_toArray, List.getElem_cons_zero, List.getElem_cons_succ, List.setIfInBounds_toArray, List.set_cons_zero, List.set_cons_succ]
                refine wpAnyH_take (i := 15) (v := .int .i64 (k : Int)) rfl (by kernel_rfl) (by kernel_rfl) (by kernel_rfl) (fun _ _ _ h => h) (Or.inl ⟨by rfl, fun w hS => by go_simp⟩) hHeld ?_
                simp only [Act.put, List.getElem_toArray, List.getElem_cons_zero, List.getElem_cons_succ, List.setIfInBounds_toArray, List.set_cons_zero, List.set_cons_succ]
                refine wpAnyH_take (i := 16) (v := .bool true) rfl (by kernel_rfl) (by kernel_rfl) (by kernel_rfl) (fun _ _ _ h => h) (Or.inl ⟨by rfl, fun w hS => by go_simp⟩) hHeld ?_
                simp only [Act.put, List.getElem_toArray, List.getElem_cons_zero, List.getElem_cons_succ, List.setIfInBounds_toArray, List.set_cons_zero, List.set_cons_succ]
                refine wpAnyH_take (i := 17) (v := .bool true) rfl (by kernel_rfl) (by kernel_rfl) (by kernel_rfl) (fun _ _ _ h => h) (Or.inl ⟨by rfl, fun w hS => by go_simp⟩) hHeld ?_
                simp only [Act.put, List.getElem_toArray, List.getElem_cons_zero, List.getElem_cons_succ, List.setIfInBounds_toArray, List.set_cons_zero, List.set_cons_succ]
                refine wpAnyH_take (i := 18) (v := .slice (some ⟨gn, on, none⟩) m nc) rfl (by kernel_rfl) (by kernel_rfl) (by kernel_rfl) (fun _ _ _ h => h) (Or.inl ⟨by rfl, fun w hS => by go_simp⟩) hHeld ?_
                simp only [Act.put, List.getElem_toArray, List.getElem_cons_zero, List.getElem_cons_succ, List.setIfInBounds_toArray, List.set_cons_zero, List.set_cons_succ]
                refine wpAnyH_take (i := 19) (v := .int .i64 (k : Int)) rfl (by kernel_rfl) (by kernel_rfl) (by kernel_rfl) (fun _ _ _ h => h) (Or.inl ⟨by rfl, fun w hS => by go_simp⟩) hHeld ?_
                simp only [Act.put, List.getElem_toArray, List.getElem_cons_zero, List.getElem_cons_succ, List.setIfInBounds_toArray, List.set_cons_zero, List.set_cons_succ]
                refine wpAnyH_take (i := 20) (v := .pointer (some ⟨gn, on + k, none⟩)) rfl (by kernel_rfl) (by kernel_rfl) (by kernel_rfl) (fun _ _ _ h => h) (Or.inl ⟨by rfl, fun w hS => by go_simp⟩) hHeld ?_
                simp only [Act.put, List.getElem_toArray, List.getElem_cons_zero, List.getElem_cons_succ, List.setIfInBounds_toArray, List.set_cons_zero, List.set_cons_succ]
                refine wpAnyH_take (i := 21) (v := .string s) rfl (by kernel_rfl) (by kernel_rfl) (by kernel_rfl) (fun _ _ _ h => h) (Or.inl ⟨by rfl, fun w hS => by (have q1 := HCX.out _ hS; go_simp)⟩) hHeld ?_
                simp only [Act.put, List.getElem_toArray, List.getElem_cons_zero, List.getElem_cons_succ, List.setIfInBounds_toArray, List.set_cons_zero, List.set_cons_succ]
                refine wpAnyH_take (i := 22) (v := .slice (some ⟨gn, on, none⟩) m nc) rfl (by kernel_rfl) (by kernel_rfl) (by kernel_rfl) (fun _ _ _ h => h) (Or.inl ⟨by rfl, fun w hS => by go_simp⟩) hHeld ?_
                simp only [Act.put, List.getElem_toArray, List.getElem_cons_zero, List.getElem_cons_succ, List.setIfInBounds_toArray, List.set_cons_zero, List.set_cons_succ]
                refine wpAnyH_take (i := 23) (v := .int .i64 (k : Int)) rfl (by kernel_rfl) (by kernel_rfl) (by kernel_rfl) (fun _ _ _ h => h) (Or.inl ⟨by rfl, fun w hS => by go_simp⟩) hHeld ?_
                simp only [Act.put, List.getElem_toArray, List.getElem_cons_zero, List.getElem_cons_succ, List.setIfInBounds_toArray, List.set_cons_zero, List.set_cons_succ]
                refine wpAnyH_take (i := 24) (v := .int .i64 (k1 : Int)) rfl (by kernel_rfl) (by kernel_rfl) (by kernel_rfl) (fun _ _ _ h => h) (Or.inl ⟨by rfl, fun w hS => by go_simp⟩) hHeld ?_
                simp only [Act.put, List.getElem_toArray, List.getElem_cons_zero, List.getElem_cons_succ, List.setIfInBounds_toArray, List.set_cons_zero, List.set_cons_succ]
                refine wpAnyH_take (i := 25) (v := .pointer (some ⟨gn, on + k1, none⟩)) rfl (by kernel_rfl) (by kernel_rfl) (by kernel_rfl) (fun _ _ _ h => h) (Or.inl ⟨by rfl, fun w hS => by go_simp⟩) hHeld ?_
                simp only [Act.put, List.getElem_toArray, List.getElem_cons_zero, List.getElem_cons_succ, List.setIfInBounds_toArray, List.set_cons_zero, List.set_cons_succ]
                refine wpAnyH_take (i := 26) (v := .string s0) rfl (by kernel_rfl) (by kernel_rfl) (by kernel_rfl) (fun _ _ _ h => h) (Or.inl ⟨by rfl, fun w hS => by (have q1 := HC0.out _ hS; go_simp)⟩) hHeld ?_
                simp only [Act.put, List.getElem_toArray, List.getElem_cons_zero, List.getElem_cons_succ, List.setIfInBounds_toArray, List.set_cons_zero, List.set_cons_succ]
                refine wpAnyH_take (i := 27) (v := .bool false) rfl (by kernel_rfl) (by kernel_rfl) (by kernel_rfl) (fun _ _ _ h => h) (Or.inl ⟨by rfl, fun w hS => by (have q1 := HLE.out.1; have q2 := HLE.out.2; go_simp)⟩) hHeld ?_
                simp only [Act.put, List.getElem_toArray, List.getElem_cons_zero, List.getElem_cons_succ, List.setIfInBounds_toArray, List.set_cons_zero, List.set_cons_succ]
                refine wpAnyH_take (i := 28) (v := .bool false) rfl (by kernel_rfl) (by kernel_rfl) (by kernel_rfl) (fun _ _ _ h => h) (Or.inl ⟨by rfl, fun w hS => by go_simp⟩) hHeld ?_
                simp only [Act.put, List.getElem_toArray, List.getElem_cons_zero, List.getElem_cons_succ, List.setIfInBounds_toArray, List.set_cons_zero, List.set_cons_succ]
                refine wpAnyH_take (i := 29) (v := .bool false) rfl (by kernel_rfl) (by kernel_rfl) (by kernel_rfl) (fun _ _ _ h => h) (Or.inl ⟨by rfl, fun w hS => by go_simp⟩) hHeld ?_
                simp only [Act.put, List.getElem_toArray, List.getElem_cons_zero, List.getElem_cons_succ, List.setIfInBounds_toArray, List.set_cons_zero, List.set_cons_succ]
                refine wpAnyH_done (by kernel_rfl) ?_ _
                go_wp2
                exact ⟨⟨k + 1, by omega, by go_num, grow_trans hB.out d1⟩, by simp [intOf]; omega⟩
          case neg =>
            as_aux_lemma =>
              obtain rfl : m = k := by omega
              by_cases hr : 0 < root
              case pos =>
                have r1 : (0 : Int) < (root : Int) := by omega
                have HLT := hidden (zs_let (HZ.out.grow hB.out) hr)
                have HND := hidden HZ.out.nd
                have HNV := hidden HZ.out.sv.hv.vm
                clear hwk hB
                go_wp2_with (go_at_call 32; refine HLT.out.mono ?_; rintro e w5 ⟨mm, rfl, h5⟩; have H5 := hidden h5; clear h5 HLT)
                go_loopw [20] (fun iv wr => ∃ k : Nat, k ≤ m ∧ iv = .int .i64 (k : Int) ∧ Hid (Zd wA wr X' gv b g gs na ms G k)) (fun iv _ => m - (intOf iv).toNat)
                case atStart => exact ⟨0, Nat.zero_le _, rfl, H5⟩
                case round =>
                  clear H5
                  obtain ⟨k, hk2, rfl, hD⟩ := hrel
                  have hwk : wrap64 ((k : Int) + 1) = ((k + 1 : Nat) : Int) := by rw [Go.IntWalk.wrap64_in _ (by omega)]; rfl
                  by_cases hlt : k < m
                  case pos =>
                    obtain ⟨gn, on, rfl, _, _, hcell⟩ := hD.out.2 (by rw [← HM.out]; omega)
                    have hks : k < (nmSort ms).length := by rw [nmSort_len, ← HM.out]; exact hlt
                    obtain ⟨x, hx⟩ : ∃ x, (nmSort ms)[k]? = some x := ⟨_, List.getElem?_eq_getElem hks⟩
                    obtain ⟨s, hs⟩ : ∃ s : ByteArray, s = ⟨x.toArray⟩ := ⟨_, rfl⟩
                    have cx : wr.cell? ⟨gn, on + k, none⟩ = some (.string s) := by rw [hs]; exact hcell k x hx
                    have HDR : Hid (Calls Tryz.prog 33 #[.pointer (some ⟨gv, 0, none⟩), .string s] wr fun e w' => ∃ q : Int, e = .returned (.tuple #[.int .i64 q, .int .i64 0]) ∧ Zd wA w' X' gv b g gs (some ⟨gn, on, none⟩) ms G (k + 1)) := by
                      rw [hs]
                      exact zd_drop hD.out HND.out hx (vm_names_le HNV.out x (List.mem_of_getElem? hx))
                    have i2 : (k : Int) < (m : Int) := by omega
                    have i0 : (0 : Int) ≤ (k : Int) := by omega
                    clear hcell hks hx hs hD
                    go_wp2_with (go_at_call 33; refine HDR.out.mono ?_; rintro e w6 ⟨q6, rfl, h6⟩; have H6 := hidden h6; clear h6 HDR)
                    exact ⟨⟨k + 1, by omega, by go_num, H6⟩, by simp [intOf]; omega⟩
                  case neg =>
                    obtain rfl : m = k := by omega
                    have hD2 : Hid (Zd wA wr X' gv b g gs na ms G ms.length) := by rw [← HM.out]; exact hD
                    have HOC := hidden (zd_occ hD2.out)
                    have HLN : Hid (∀ w', Below wr.heap.size wr w' → Calls Tryz.prog 35 #[.pointer (some ⟨gv, 0, none⟩)] w' fun e w'' => e = .returned (.int .i64 0) ∧ w'' = w') := fun w' hb => zd_len (hD2.out.grow hb)
                    have HLO := hidden hD.out.low
                    clear hwk hD hD2
                    go_wp2_with (first
                      | (go_at_call 34; refine HOC.out.mono ?_; rintro e w7 ⟨rfl, q7⟩)
                      | (go_at_call 35; refine (HLN.out _ q7).mono ?_; rintro e w' ⟨rfl, hx⟩; rw [hx]; clear hx w'))
                    go_ret
                    exact ⟨rfl, grow_trans (grow_trans HQA.out HLO.out) q7⟩
              case neg =>
                have r1 : ¬ (0 : Int) < (root : Int) := by omega
                have H5 : Hid (Zd wA wr X' gv b g gs na ms G 0) := by
                  have h6 := HZ.out.grow hB.out
                  rw [show root = 0 by omega] at h6
                  exact zs_zero h6
                have HND := hidden HZ.out.nd
                have HNV := hidden HZ.out.sv.hv.vm
                clear hwk hB
                go_wp2_with fail
                go_loopw [20] (fun iv wr => ∃ k : Nat, k ≤ m ∧ iv = .int .i64 (k : Int) ∧ Hid (Zd wA wr X' gv b g gs na ms G k)) (fun iv _ => m - (intOf iv).toNat)
                case atStart => exact ⟨0, Nat.zero_le _, rfl, H5⟩
                case round =>
                  clear H5
                  obtain ⟨k, hk2, rfl, hD⟩ := hrel
                  have hwk : wrap64 ((k : Int) + 1) = ((k + 1 : Nat) : Int) := by rw [Go.IntWalk.wrap64_in _ (by omega)]; rfl
                  by_cases hlt : k < m
                  case pos =>
                    obtain ⟨gn, on, rfl, _, _, hcell⟩ := hD.out.2 (by rw [← HM.out]; omega)
                    have hks : k < (nmSort ms).length := by rw [nmSort_len, ← HM.out]; exact hlt
                    obtain ⟨x, hx⟩ : ∃ x, (nmSort ms)[k]? = some x := ⟨_, List.getElem?_eq_getElem hks⟩
                    obtain ⟨s, hs⟩ : ∃ s : ByteArray, s = ⟨x.toArray⟩ := ⟨_, rfl⟩
                    have cx : wr.cell? ⟨gn, on + k, none⟩ = some (.string s) := by rw [hs]; exact hcell k x hx
                    have HDR : Hid (Calls Tryz.prog 33 #[.pointer (some ⟨gv, 0, none⟩), .string s] wr fun e w' => ∃ q : Int, e = .returned (.tuple #[.int .i64 q, .int .i64 0]) ∧ Zd wA w' X' gv b g gs (some ⟨gn, on, none⟩) ms G (k + 1)) := by
                      rw [hs]
                      exact zd_drop hD.out HND.out hx (vm_names_le HNV.out x (List.mem_of_getElem? hx))
                    have i2 : (k : Int) < (m : Int) := by omega
                    have i0 : (0 : Int) ≤ (k : Int) := by omega
                    clear hcell hks hx hs hD
                    go_wp2_with (go_at_call 33; refine HDR.out.mono ?_; rintro e w6 ⟨q6, rfl, h6⟩; have H6 := hidden h6; clear h6 HDR)
                    exact ⟨⟨k + 1, by omega, by go_num, H6⟩, by simp [intOf]; omega⟩
                  case neg =>
                    obtain rfl : m = k := by omega
                    have hD2 : Hid (Zd wA wr X' gv b g gs na ms G ms.length) := by rw [← HM.out]; exact hD
                    have HOC := hidden (zd_occ hD2.out)
                    have HLN : Hid (∀ w', Below wr.heap.size wr w' → Calls Tryz.prog 35 #[.pointer (some ⟨gv, 0, none⟩)] w' fun e w'' => e = .returned (.int .i64 0) ∧ w'' = w') := fun w' hb => zd_len (hD2.out.grow hb)
                    have HLO := hidden hD.out.low
                    clear hwk hD hD2
                    go_wp2_with (first
                      | (go_at_call 34; refine HOC.out.mono ?_; rintro e w7 ⟨rfl, q7⟩)
                      | (go_at_call 35; refine (HLN.out _ q7).mono ?_; rintro e w' ⟨rfl, hx⟩; rw [hx]; clear hx w'))
                    go_ret
                    exact ⟨rfl, grow_trans (grow_trans HQA.out HLO.out) q7⟩
end Go.Proofs.YtlhnodinhmdjnaaGreatDoor

/- What an argument is in memory that is a list of writes with names. -/
namespace Go.Proofs.YtlhnodinhmdjnaaGreatDoor
set_option maxRecDepth 20000
open Go.ChangeShapes Go.WideShapes Go.ChangeAt Go.RowKit

theorem weights_all14 {H : Type} {P : Program} {e : TypeId} {d : DataW H} {n : Nat} (hn : n ∈ d.weights P e) : ∀ l : List (DataW H), d ∈ l → n ∈ DataW.weightsAll P e l
  | [], h => by simp at h
  | x :: r, h => by
    simp only [DataW.weightsAll, List.mem_append]
    rcases List.mem_cons.1 h with rfl | h
    · exact .inl hn
    · exact .inr (weights_all14 hn r h)
theorem cells_wv : Tryz.prog.cellsOf 78 = 34 := by kernel_rfl
theorem cells_sl14 : Tryz.prog.cellsOf 35 = 1 := by kernel_rfl
theorem cells_st14 : Tryz.prog.cellsOf 9 = 1 := by kernel_rfl
theorem bytesOf_wv : Tryz.prog.bytesOf 78 = 72 := by kernel_rfl
theorem one_ofW (cs : List Value) (i : Nat) (h : i < cs.length) : ∃ u, (cs.drop i).take 1 = [u] ∧ cs[i]? = some u := by
  refine ⟨cs[i], ?_, List.getElem?_eq_getElem h⟩
  rw [List.drop_eq_getElem_cons h]
  rfl

/-- The cells of a write that came in. -/
theorem trod_wv {H : Type} {enc : TypeId × Value → H} {W : World} {fuel : Nat} {cs : List Value} {x : DataW H × List MemPlace} (h : DataW.trod enc Tryz.prog W 0 (fun _ => true) true fuel 78 cs = some x) (hw : ∀ m ∈ x.1.weights Tryz.prog 78, m ≤ reachBytes) : ∃ q : Wv, cs = wvL q ∧ WvOk W q := by
  have hF : ∃ f0 f1 f2 : Field, Tryz.prog.underlying 78 = some (.struct #[f0, f1, f2]) ∧ (f0.type = 23 ∧ f0.offset = 0) ∧ (f1.type = 35 ∧ f1.offset = 32) ∧ (f2.type = 9 ∧ f2.offset = 33) := ⟨_, _, _, Tryz.underlying78, ⟨rfl, rfl⟩, ⟨rfl, rfl⟩, ⟨rfl, rfl⟩⟩
  obtain ⟨f0, f1, f2, hu, ⟨t0, o0⟩, ⟨t1, o1⟩, ⟨t2, o2⟩⟩ := hF
  obtain ⟨xs, n, hk, hxy, hl, hxl, hf⟩ := DataW.trod_struct hu h
  rw [cells_wv] at hl
  match xs, hxl with
  | [y0, y1, y2], _ =>
    have g0 : DataW.trod enc Tryz.prog W 0 (fun _ => true) true n f0.type ((cs.drop f0.offset).take (Tryz.prog.cellsOf f0.type)) = some y0 := hf 0 f0 rfl
    have g1 : DataW.trod enc Tryz.prog W 0 (fun _ => true) true n f1.type ((cs.drop f1.offset).take (Tryz.prog.cellsOf f1.type)) = some y1 := hf 1 f1 rfl
    have g2 : DataW.trod enc Tryz.prog W 0 (fun _ => true) true n f2.type ((cs.drop f2.offset).take (Tryz.prog.cellsOf f2.type)) = some y2 := hf 2 f2 rfl
    rw [t0, o0, cells_path] at g0
    rw [t1, o1, cells_sl14] at g1
    rw [t2, o2, cells_st14] at g2
    obtain ⟨u1, a1, b1⟩ := one_ofW cs 32 (by omega)
    obtain ⟨u2, a2, b2⟩ := one_ofW cs 33 (by omega)
    rw [a1] at g1
    rw [a2] at g2
    have hsz2 : (DataW.weightsEach Tryz.prog [23, 35, 9] [y0.1, y1.1, y2.1]).all (· ≤ reachBytes) = true := by
      rw [List.all_eq_true]
      intro m hm
      rw [decide_eq_true_iff]
      refine hw m ?_
      rw [hxy]
      simp only [DataW.weights, hu]
      rw [show (#[f0, f1, f2] : Array Field).toList.map (·.type) = [23, 35, 9] by simp [t0, t1, t2]]
      exact hm
    obtain ⟨zs, r1, l1⟩ := trod_sized (d := y1.1) (p := y1.2) g1 hsz2 1 rfl rfl
    obtain ⟨s, e2, _, h2⟩ := DataW.trod_string Tryz.underlying9 g2
    obtain ⟨K, lk, ek, bk⟩ := trod_u8s Tryz.underlying23 cells_path g0
    simp only [List.cons.injEq, and_true] at e2
    subst e2
    refine ⟨⟨K, u1, zs, s⟩, ?_, ⟨lk, bk⟩, r1, h2⟩
    have gt : ∀ i u, cs[i]? = some u → cs.drop i = u :: cs.drop (i + 1) := fun i u hu => by
      obtain ⟨h1, h2⟩ := List.getElem?_eq_some_iff.1 hu
      rw [List.drop_eq_getElem_cons h1, h2]
    have d1 := gt 32 _ b1
    have d2 := gt 33 _ b2
    have d3 : cs.drop 34 = [] := List.drop_eq_nil_of_le (by omega)
    have e0 : cs.take 32 = K.map (Value.int .u8) := by simpa using ek
    show cs = _
    rw [← List.take_append_drop 32 cs, e0, d1, d2, d3]
    rfl

theorem arg_ws {H : Type} {enc : TypeId × Value → H} {W : World} {base : Nat} {v : Value} {d : DataW H} {p : List MemPlace} (hv : Value.okWide Tryz.prog W .any base 72 v) (h : DataW.Trod enc Tryz.prog W 0 (fun _ => true) true 72 v d p) {ts : List TypeId} {ds : List (DataW H)} (hsz : (DataW.weightsEach Tryz.prog ts ds).all (· ≤ reachBytes) = true) (j : Nat) (ht : ts[j]? = some 72) (hd : ds[j]? = some d) : ∃ l : List Wv, WvAt W v l ∧ l.length * 72 ≤ 140737488355328 - 4096 := by
  obtain ⟨a, len, cap, rfl⟩ := okWide_slice Tryz.underlying72 hv
  obtain ⟨fuel, hf⟩ := h
  rcases Go.Deep.open_slice Tryz.underlying72 hf with ⟨hcs, hx⟩ | ⟨x, l, c, m, n, D, Pl, hcs, _, hl, hm, hmm, hx, hcell⟩
  · simp [Value.cells] at hcs
    obtain ⟨rfl, rfl, rfl⟩ := hcs
    exact ⟨[], ⟨none, 0, rfl, fun h => by simp at h, fun i hi => by simp at hi⟩, by simp⟩
  · simp [Value.cells] at hcs
    obtain ⟨rfl, rfl, rfl⟩ := hcs
    simp at hmm
    simp only [Prod.mk.injEq] at hx
    have hs := sized_slice hsz ht (by rw [hd, hx.1]) Tryz.underlying72
    rw [bytesOf_wv] at hs
    simp only [List.length_map, List.length_range, reachBytes] at hs
    have hwt : ∀ i, i < len → ∀ q ∈ (D i).weights Tryz.prog 78, q ≤ reachBytes := by
      intro i hi q hq
      have h1 := List.all_eq_true.1 hsz q (DataW.weights_mem_each ht hd q (by
        rw [hx.1]
        simp only [DataW.weights, Tryz.underlying72, List.mem_cons, List.mem_append]
        exact .inr (.inl (weights_all14 hq _ (List.mem_map.2 ⟨i, List.mem_range.2 hi, rfl⟩)))))
      simpa using h1
    have each : ∀ i, i < len → ∃ q : Wv, (∀ k u, (wvL q)[k]? = some u → W.cell? (x.add (i * 34 + k)) = some u) ∧ WvOk W q := by
      intro i hi
      obtain ⟨cs', h1, h2⟩ := hcell i (by omega)
      rw [cells_wv] at h1
      obtain ⟨_, hlen, hc⟩ := World.cells?_some h1
      obtain ⟨q, rfl, hk⟩ := trod_wv h2 (hwt i hi)
      refine ⟨q, fun k w hw => ?_, hk⟩
      have hk2 := (List.getElem?_eq_some_iff.1 hw).1
      have hk3 : k < 34 := by rw [← hlen]; exact hk2
      have h3 := hc k hk3
      rw [Go.Deep.add_add] at h3
      rw [h3]
      exact hw
    obtain ⟨q, hq⟩ := Go.Deep.choose_lt each
    refine ⟨(List.range len).map q, ⟨some x, cap, by simp, fun hp => ?_, fun y hy => ?_⟩, by simp; omega⟩
    · simp only [List.length_map, List.length_range] at hp
      obtain ⟨b, off, spot⟩ := x
      have hspot : spot = none := by
        have hlen := wvL_length (q 0) (hq 0 hp).2.key.1
        have := World.cell?_spot ((hq 0 hp).1 0 _ (List.getElem?_eq_getElem (by omega)))
        simpa [Addr.add] using this
      subst hspot
      refine ⟨b, off, rfl, fun i y hy k u hu => ?_⟩
      obtain ⟨hi, he⟩ := List.getElem?_eq_some_iff.1 hy
      simp only [List.length_map, List.length_range] at hi
      simp at he
      subst he
      have := (hq i hi).1 k u hu
      rw [Addr.add_lit] at this
      rw [Nat.add_assoc]
      exact this
    · obtain ⟨i, hi, rfl⟩ := List.mem_map.1 hy
      exact (hq i (List.mem_range.1 hi)).2

end Go.Proofs.YtlhnodinhmdjnaaGreatDoor
