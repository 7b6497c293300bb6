/- Stores by definition: the tree below a handle, its entries; that its digest is the root of these, that they have unlike keys, and that a size is how many there are. No program in this text. -/
import Derived.Test.YtegegoapcdmlhaaGreatDoorDn08
import Derived.Test.YtegegoapcdmlhaaGreatDoorDn02
import Derived.Test.YtegegoapcdmlhaaGreatDoorDn07
namespace Go.Proofs.YtegegoapcdmlhaaGreatDoor
set_option maxRecDepth 20000
open Go.RowKit

inductive Tre where
  | emp : Tre
  | lf (k b : List Int) : Tre
  | nd (d hl hr : Nat) (l r : Tre) : Tre

def Tre.ents : Tre → List Ent
  | .emp => []
  | .lf k b => [(k, b)]
  | .nd _ _ _ l r => l.ents ++ r.ents
/-- The handles of its leaves. -/
def Tre.lvs : Nat → Tre → List Nat
  | _, .emp => []
  | h, .lf _ _ => [h]
  | _, .nd _ hl hr l r => l.lvs hl ++ r.lvs hr
/-- How many nodes it has. -/
def Tre.num : Tre → Nat
  | .emp => 0
  | .lf _ _ => 1
  | .nd _ _ _ l r => 1 + (l.num + r.num)

/-- The tree below a handle. -/
def IsT (cs : List (Nat × Ce)) : Nat → Tre → Prop
  | h, .emp => h = 0
  | h, .lf k b => 1 ≤ h ∧ 0 < cc cs (h - 1) ∧ (ce cs (h - 1)).kind = 1 ∧ (ce cs (h - 1)).key = k ∧ (ce cs (h - 1)).bs = b
  | h, .nd d hl hr l r => 1 ≤ h ∧ 0 < cc cs (h - 1) ∧ (ce cs (h - 1)).kind = 2 ∧ (ce cs (h - 1)).dp = d ∧ (ce cs (h - 1)).l = hl ∧ (ce cs (h - 1)).r = hr ∧ IsT cs hl l ∧ IsT cs hr r

theorem tree_le {cs : List (Nat × Ce)} {pend : List Nat} (w : Wf cs pend) : ∀ (n i : Nat), 0 < cc cs i → (ce cs i).kind = 2 → 256 - (ce cs i).dp ≤ n → ∃ T, IsT cs (i + 1) T
  | 0, i, hi, hk, hn => by
    rcases w.tr i hi with h | h
    · have := h.kind; omega
    · have := h.dp; omega
  | n + 1, i, hi, hk, hn => by
    rcases w.tr i hi with h | h
    · have := h.kind; omega
    · have side : ∀ b q, SideOk cs (ce cs i).dp b q → ∃ T, IsT cs q T := fun b q hq => by
        rcases hq with rfl | ⟨q1, q2, q3, q4⟩
        · exact ⟨.emp, rfl⟩
        · obtain ⟨j, rfl⟩ : ∃ j, q = j + 1 := ⟨q - 1, by omega⟩
          rw [Nat.add_sub_cancel] at q2 q3 q4
          rcases q4 with q4 | ⟨q4, q5⟩
          · exact ⟨.lf _ _, by omega, q2, q4, rfl, rfl⟩
          · exact tree_le w n j q2 q4 (by omega)
      obtain ⟨L, hL⟩ := side _ _ h.sl
      obtain ⟨R, hR⟩ := side _ _ h.sr
      exact ⟨.nd _ _ _ L R, by omega, hi, hk, rfl, rfl, rfl, hL, hR⟩

theorem tree_ex {cs : List (Nat × Ce)} {pend : List Nat} (w : Wf cs pend) (i : Nat) (hi : 0 < cc cs i) : ∃ T, IsT cs (i + 1) T := by
  rcases w.tr i hi with h | h
  · exact ⟨.lf _ _, by omega, hi, h.kind, rfl, rfl⟩
  · exact tree_le w 256 i hi h.kind (by omega)

theorem IsT.one {cs : List (Nat × Ce)} : ∀ {T U : Tre} {h : Nat}, IsT cs h T → IsT cs h U → T = U
  | .emp, .emp, _, _, _ => rfl
  | .emp, .lf _ _, h, a, b => by have : h = 0 := a; have := b.1; omega
  | .emp, .nd _ _ _ _ _, h, a, b => by have : h = 0 := a; have := b.1; omega
  | .lf _ _, .emp, h, a, b => by have : h = 0 := b; have := a.1; omega
  | .nd _ _ _ _ _, .emp, h, a, b => by have : h = 0 := b; have := a.1; omega
  | .lf _ _, .lf _ _, h, a, b => by
    obtain ⟨_, _, _, a1, a2⟩ := a
    obtain ⟨_, _, _, b1, b2⟩ := b
    rw [← a1, ← a2, ← b1, ← b2]
  | .lf _ _, .nd _ _ _ _ _, h, a, b => by have := a.2.2.1; have := b.2.2.1; omega
  | .nd _ _ _ _ _, .lf _ _, h, a, b => by have := a.2.2.1; have := b.2.2.1; omega
  | .nd _ _ _ l r, .nd _ _ _ l' r', h, a, b => by
    obtain ⟨_, _, _, a1, a2, a3, a4, a5⟩ := a
    obtain ⟨_, _, _, b1, b2, b3, b4, b5⟩ := b
    subst a1 a2 a3 b1 b2 b3
    rw [IsT.one a4 b4, IsT.one a5 b5]

/-- What is known of the tree below a handle. -/
structure TreeOk (cs : List (Nat × Ce)) (h : Nat) (T : Tre) : Prop where
  sz : (sdC cs h).sz = T.ents.length
  ent : ∀ e ∈ T.ents, Key e.1 ∧ e.2.length ≤ 1024 ∧ Bytes e.2
  share : ∀ d, h ≠ 0 → ((ce cs (h - 1)).kind = 2 → d ≤ (ce cs (h - 1)).dp) → ∀ e ∈ T.ents, ∀ j, j < d → kb e.1 j = kb (sdC cs h).key j
  dig : ∀ d, ((sdC cs h).kind = 2 → (sdC cs h).dp = d) → sdD cs h = rt (256 - d) d T.ents
  apart : T.ents.Pairwise fun a b => a.1 ≠ b.1
  keys : (T.lvs h).map (fun q => (ce cs (q - 1)).key) = T.ents.map (·.1)
  lvs : ∀ q ∈ T.lvs h, 1 ≤ q ∧ 0 < cc cs (q - 1)
  pos : h ≠ 0 → T.ents ≠ []

theorem sideOf_all (l : List Ent) (d : Nat) (b : Int) (h : ∀ e ∈ l, kbi e.1 d = b) : sideOf l d b = l := by
  unfold sideOf
  rw [List.filter_eq_self]
  intro e he
  simp [h e he]
theorem sideOf_none (l : List Ent) (d : Nat) (b c : Int) (h : ∀ e ∈ l, kbi e.1 d = c) (hc : c ≠ b) : sideOf l d b = [] := by
  unfold sideOf
  rw [List.filter_eq_nil_iff]
  intro e he
  simp [h e he, hc]
theorem sideOf_app (l m : List Ent) (d : Nat) (b : Int) : sideOf (l ++ m) d b = sideOf l d b ++ sideOf m d b := List.filter_append _ _

theorem tree_ok {cs : List (Nat × Ce)} {pend : List Nat} (w : Wf cs pend) : ∀ (T : Tre) (h : Nat), IsT cs h T → TreeOk cs h T
  | .emp, h, e => by
    have e : h = 0 := e
    subst e
    exact ⟨rfl, fun _ h => (by cases h), fun _ h => absurd rfl h, fun d _ => (rt_nil _ _).symm, List.Pairwise.nil, rfl, fun _ h => (by cases h), fun h => absurd rfl h⟩
  | .lf k b, h, ⟨h1, h2, h3, h4, h5⟩ => by
    obtain ⟨i, rfl⟩ : ∃ i, h = i + 1 := ⟨h - 1, by omega⟩
    rw [Nat.add_sub_cancel] at h2 h3 h4 h5
    have hs : sdC cs (i + 1) = ce cs i := rfl
    have hd : sdD cs (i + 1) = (ce cs i).dig := rfl
    rcases w.tr i h2 with hn | hn
    · refine ⟨by rw [hs, hn.sz]; rfl, fun e he => ?_, fun d _ _ e he j _ => ?_, fun d _ => ?_, List.pairwise_singleton _ _, ?_, fun q hq => ?_, fun _ e => by cases e⟩
      · obtain rfl : e = (k, b) := by simpa [Tre.ents] using he
        rw [← h4, ← h5]
        exact ⟨(w.ok i).hk, hn.len, hn.by_⟩
      · obtain rfl : e = (k, b) := by simpa [Tre.ents] using he
        rw [hs, h4]
      · rw [hd, hn.dig, h4, h5]
        exact (rt_one (256 - d) d (k, b)).symm
      · simp [Tre.lvs, Tre.ents, h4]
      · obtain rfl : q = i + 1 := by simpa [Tre.lvs] using hq
        exact ⟨by omega, h2⟩
    · have := hn.kind; omega
  | .nd d hl hr L R, h, ⟨h1, h2, h3, h4, h5, h6, h7, h8⟩ => by
    obtain ⟨i, rfl⟩ : ∃ i, h = i + 1 := ⟨h - 1, by omega⟩
    rw [Nat.add_sub_cancel] at h2 h3 h4 h5 h6
    have hs : sdC cs (i + 1) = ce cs i := rfl
    have hd : sdD cs (i + 1) = (ce cs i).dig := rfl
    have okL := tree_ok w L hl h7
    have okR := tree_ok w R hr h8
    rcases w.tr i h2 with hn | hn
    · have := hn.kind; omega
    have hdp := hn.dp
    have sl := hn.sl
    have sr := hn.sr
    have hsz := hn.sz
    have htwo := hn.two
    have hcom := hn.com
    have hkey := hn.key
    have hdig := hn.dig
    rw [h4] at hdp sl sr hcom hkey
    rw [h5] at sl hsz hcom hkey hdig
    rw [h6] at sr hsz hcom hkey hdig
    have shL : ∀ e ∈ L.ents, hl ≠ 0 ∧ ∀ j, j < d + 1 → kb e.1 j = kb (sdC cs hl).key j := fun e he => by
      by_cases e0 : hl = 0
      · subst e0
        have := okL.sz
        rw [show (sdC cs 0).sz = 0 from rfl] at this
        rw [List.eq_nil_of_length_eq_zero this.symm] at he
        cases he
      · refine ⟨e0, okL.share (d + 1) e0 (fun k => ?_) e he⟩
        rcases sl with e | ⟨_, _, _, e | ⟨_, e⟩⟩
        · exact absurd e e0
        · omega
        · omega
    have shR : ∀ e ∈ R.ents, hr ≠ 0 ∧ ∀ j, j < d + 1 → kb e.1 j = kb (sdC cs hr).key j := fun e he => by
      by_cases e0 : hr = 0
      · subst e0
        have := okR.sz
        rw [show (sdC cs 0).sz = 0 from rfl] at this
        rw [List.eq_nil_of_length_eq_zero this.symm] at he
        cases he
      · refine ⟨e0, okR.share (d + 1) e0 (fun k => ?_) e he⟩
        rcases sr with e | ⟨_, _, _, e | ⟨_, e⟩⟩
        · exact absurd e e0
        · omega
        · omega
    have bL : ∀ e ∈ L.ents, kb e.1 d = 0 := fun e he => by
      obtain ⟨e0, sh⟩ := shL e he
      rw [sh d (by omega)]
      rcases sl with e | ⟨_, _, e, _⟩
      · exact absurd e e0
      · unfold sdC
        rw [if_neg e0]
        exact e
    have bR : ∀ e ∈ R.ents, kb e.1 d = 1 := fun e he => by
      obtain ⟨e0, sh⟩ := shR e he
      rw [sh d (by omega)]
      rcases sr with e | ⟨_, _, e, _⟩
      · exact absurd e e0
      · unfold sdC
        rw [if_neg e0]
        exact e
    have hlen : (L.ents ++ R.ents).length = (ce cs i).sz := by rw [List.length_append, hsz, okL.sz, okR.sz]
    refine ⟨by rw [hs]; exact hlen.symm, fun e he => ?_, fun q _ hq e he j hj => ?_, fun q hq => ?_, ?_, ?_, fun q hq => ?_, fun _ e => ?_⟩
    · rcases List.mem_append.1 he with he | he
      · exact okL.ent e he
      · exact okR.ent e he
    · have hj2 : j < d := by
        have := hq (by rw [Nat.add_sub_cancel]; exact h3)
        rw [Nat.add_sub_cancel, h4] at this
        omega
      rw [hs, hkey.2 j (by omega), if_pos hj2]
      rcases List.mem_append.1 he with he | he
      · obtain ⟨e0, sh⟩ := shL e he
        rw [if_neg e0]
        exact sh j (by omega)
      · obtain ⟨e0, sh⟩ := shR e he
        by_cases el : hl = 0
        · rw [if_pos el]
          exact sh j (by omega)
        · rw [if_neg el, sh j (by omega)]
          exact ((hcom el e0).2.2 j (by omega)).symm
    · have hqd : d = q := by rw [← h4]; exact hq h3
      subst hqd
      rw [hd, hdig]
      obtain ⟨n, hn2⟩ : ∃ n, 256 - d = n + 1 := ⟨255 - d, by omega⟩
      show _ = rt (256 - d) d (L.ents ++ R.ents)
      rw [hn2, rt_more n d _ (by rw [hlen]; exact htwo), sideOf_app, sideOf_app]
      rw [sideOf_all L.ents d 0 (fun e he => by rw [kbi_in _ _ hdp]; exact bL e he), sideOf_none R.ents d 0 1 (fun e he => by rw [kbi_in _ _ hdp]; exact bR e he) (by omega)]
      rw [sideOf_none L.ents d 1 0 (fun e he => by rw [kbi_in _ _ hdp]; exact bL e he) (by omega), sideOf_all R.ents d 1 (fun e he => by rw [kbi_in _ _ hdp]; exact bR e he)]
      rw [List.append_nil, List.nil_append]
      have e1 := okL.dig (d + 1) (fun k => by
        unfold sdC at k ⊢
        rcases sl with e | ⟨e0, _, _, e | ⟨_, e⟩⟩
        · rw [if_pos e] at k; exact absurd k (by decide)
        · rw [if_neg (by omega)] at k; omega
        · rw [if_neg (by omega)]; exact e)
      have e2 := okR.dig (d + 1) (fun k => by
        unfold sdC at k ⊢
        rcases sr with e | ⟨e0, _, _, e | ⟨_, e⟩⟩
        · rw [if_pos e] at k; exact absurd k (by decide)
        · rw [if_neg (by omega)] at k; omega
        · rw [if_neg (by omega)]; exact e)
      rw [show 256 - (d + 1) = n by omega] at e1 e2
      rw [e1, e2]
    · show (L.ents ++ R.ents).Pairwise _
      rw [List.pairwise_append]
      refine ⟨okL.apart, okR.apart, fun a ha b hb e => ?_⟩
      have h1 := bL a ha
      have h2 := bR b hb
      rw [e, h2] at h1
      omega
    · show (L.lvs hl ++ R.lvs hr).map _ = (L.ents ++ R.ents).map _
      rw [List.map_append, List.map_append, okL.keys, okR.keys]
    · rcases List.mem_append.1 hq with hq | hq
      · exact okL.lvs q hq
      · exact okR.lvs q hq
    · have : (L.ents ++ R.ents).length = 0 := by rw [show L.ents ++ R.ents = [] from e]; rfl
      omega

/-- As many numbers as there are places. -/
theorem nodup_le : ∀ (n : Nat) (l : List Nat), l.Nodup → (∀ q ∈ l, q < n) → l.length ≤ n
  | 0, l, _, h => by
    match l, h with
    | [], _ => simp
    | q :: r, h => exact absurd (h q (by simp)) (by omega)
  | n + 1, l, hd, h => by
    have h1 := nodup_le n (l.erase n) (hd.erase n) (fun q hq => by
      have h2 := h q (List.mem_of_mem_erase hq)
      have h3 : q ≠ n := (List.Nodup.mem_erase_iff hd).1 hq |>.1
      omega)
    have h4 := List.length_erase (a := n) (l := l)
    split at h4 <;> omega

theorem TreeOk.few {cs : List (Nat × Ce)} {h : Nat} {T : Tre} (t : TreeOk cs h T) : T.ents.length ≤ cs.length := by
  have hl : (T.lvs h).length = T.ents.length := by
    have := congrArg List.length t.keys
    simpa using this
  have hn : (T.lvs h).Nodup := by
    have h1 : (T.ents.map (·.1)).Nodup := List.pairwise_map.2 t.apart
    rw [← t.keys] at h1
    unfold List.Nodup at h1
    rw [List.pairwise_map] at h1
    exact h1.imp (fun hne e => hne (by rw [e]))
  have := nodup_le cs.length ((T.lvs h).map (· - 1)) (List.pairwise_map.2 (by
    refine List.Pairwise.imp_of_mem ?_ hn
    intro a b ha hb hne e
    have h1 := (t.lvs a ha).1
    have h2 := (t.lvs b hb).1
    exact hne (by omega))) (fun q hq => by
      obtain ⟨a, ha, rfl⟩ := List.mem_map.1 hq
      exact cc_lt (t.lvs a ha).2)
  rw [List.length_map] at this
  omega

/-- A size is at most how many slots there are. -/
theorem Wf.size_le {cs : List (Nat × Ce)} {pend : List Nat} (w : Wf cs pend) (h : Nat) (hh : h = 0 ∨ 0 < cc cs (h - 1)) : (sdC cs h).sz ≤ cs.length := by
  by_cases e : h = 0
  · subst e
    show 0 ≤ _
    omega
  · obtain ⟨i, rfl⟩ : ∃ i, h = i + 1 := ⟨h - 1, by omega⟩
    rw [Nat.add_sub_cancel] at hh
    obtain ⟨T, hT⟩ := tree_ex w i (by omega)
    have t := tree_ok w T _ hT
    rw [t.sz]
    exact t.few

end Go.Proofs.YtegegoapcdmlhaaGreatDoor

/- A slab in memory, of things of type store.cell, and its small calls, as contracts: New, made, at, Count, Len, Room. -/
namespace Go.Proofs.YtegegoapcdmlhaaGreatDoor
set_option maxRecDepth 20000
open Go.RowKit

/-- A thing's cells. -/
def Th (z : List Value) : Prop := z.length = 71 ∧ ∀ u ∈ z, u.oneCell' = true
def zcl : List Value := List.replicate 32 (.int .u8 0) ++ (.int .u8 0 :: .int .i64 0 :: .int .i64 0 :: (List.replicate 32 (.int .u8 0) ++ [.slice none 0 0, .int .i64 0, .int .i64 0, .int .i64 0]))
theorem zcl_th : Th zcl := ⟨rfl, fun u hu => List.all_eq_true.1 (show zcl.all (·.oneCell') = true from rfl) u hu⟩

/-- Block g holds a slab: its room, its places, its free slots; vp and vf are its two lists. -/
structure SmC (w : World) (g : Nat) (vp vf : Value) (room : Nat) (ps : List Pl) (fr : List Nat) : Prop where
  blk : Blk w g 208 #[.pointer (some ⟨g, 0, none⟩), .int .i64 (room : Int), vp, vf]
  pls : Lst w 215 (71 + 1) vp ps.length (flatS ps)
  frs : Lst w 3 1 vf fr.length (nats fr)
  wid : Wid 71 ps

/-- The same, and it is a state that calls lead to. -/
structure SlC (w : World) (g : Nat) (vp vf : Value) (room : Nat) (ps : List Pl) (fr : List Nat) : Prop extends SmC w g vp vf room ps fr where
  inv : Inv room ps fr

theorem SmC.mod {w w' : World} {g : Nat} {vp vf : Value} {room : Nat} {ps : List Pl} {fr : List Nat} {S : List Nat} (h : SmC w g vp vf room ps fr) (m : Mod S w w') (hn : ∀ k ∈ slB g vp vf, k ∉ S) : SmC w' g vp vf room ps fr :=
  ⟨h.blk.mod m (hn g (by simp [slB])), lst_mod h.pls m (fun k hk => hn k (by simp [slB, hk])), lst_mod h.frs m (fun k hk => hn k (by simp [slB, hk])), h.wid⟩

theorem SlC.mod {w w' : World} {g : Nat} {vp vf : Value} {room : Nat} {ps : List Pl} {fr : List Nat} {S : List Nat} (h : SlC w g vp vf room ps fr) (m : Mod S w w') (hn : ∀ k ∈ slB g vp vf, k ∉ S) : SlC w' g vp vf room ps fr := ⟨h.toSmC.mod m hn, h.inv⟩

theorem size_slC : (Tryz.prog.info? 208).map (·.size) = some 4 := by kernel_rfl

theorem info_plC : ∃ i z, Tryz.prog.info? 215 = some i ∧ i.zero = some z ∧ i.size = 71 + 1 ∧ i.bytes = 144 ∧ z.cells.size = 71 + 1 := ⟨_, _, rfl, rfl, rfl, rfl, rfl⟩

theorem size_plC : (Tryz.prog.info? 215).map (·.size) = some (71 + 1) := by kernel_rfl

set_option maxHeartbeats 400000 in
theorem new_badC (room : Int) (w : World) (h : ¬ (1 ≤ room ∧ room ≤ 65536)) : Calls Tryz.prog 58 #[.int .i64 room] w fun e w' => e = .returned (.tuple #[.pointer none, .int .i64 2]) ∧ w' = w := by
  by_cases h1 : room < 1
  · go_enter Tryz.func58, Tryz.ntmps58
    go_wp2
    go_ret2
    exact ⟨rfl, rfl⟩
  · have h2 : 65536 < room := by omega
    clear h
    go_enter Tryz.func58, Tryz.ntmps58
    go_wp2
    go_ret2
    exact ⟨rfl, rfl⟩

set_option maxHeartbeats 400000 in
theorem new_okC (room : Nat) (w : World) (h1 : 1 ≤ room) (h2 : room ≤ 65536) : Calls Tryz.prog 58 #[.int .i64 (room : Int)] w fun e w' => ∃ g, e = .returned (.tuple #[.pointer (some ⟨g, 0, none⟩), .int .i64 0]) ∧ w.heap.size ≤ g ∧ SlC w' g (.slice none 0 0) (.slice none 0 0) room [] [] ∧ Below w.heap.size w w' := by
  have i1 : ¬ (room : Int) < 1 := by omega
  have i2 : ¬ 65536 < (room : Int) := by omega
  go_enter Tryz.func58, Tryz.ntmps58
  go_wp2
  go_ret2
  exact ⟨w.heap.size, rfl, Nat.le_refl _, ⟨⟨Blk.new _ _ _, World.ownsRow_nil _ _ _ _, World.ownsRow_nil _ _ _ _, Wid.nil _⟩, Inv.new h1 h2⟩, grow_alloc _ _⟩

/-- v is no slab: it points nowhere, or to one that New did not answer. -/
def NoC (w : World) (v : Value) : Prop := v = .pointer none ∨ ∃ g, v = .pointer (some ⟨g, 0, none⟩) ∧ w.cell? ⟨g, 0, none⟩ = some (.pointer none)

set_option maxHeartbeats 400000 in
theorem made_noC (v : Value) (w : World) (h : NoC w v) : Calls Tryz.prog 148 #[v] w fun e w' => e = .returned (.bool false) ∧ w' = w := by
  have hq := fun a => eql_none (P := Tryz.prog) w a Tryz.underlying107
  rcases h with rfl | ⟨g, rfl, hc⟩
  all_goals
    go_enter Tryz.func148, Tryz.ntmps148
    go_wp2
    go_ret
    exact ⟨rfl, rfl⟩

set_option maxHeartbeats 400000 in
theorem made_okC (g : Nat) (w : World) (hc : w.cell? ⟨g, 0, none⟩ = some (.pointer (some ⟨g, 0, none⟩))) : Calls Tryz.prog 148 #[.pointer (some ⟨g, 0, none⟩)] w fun e w' => e = .returned (.bool true) ∧ w' = w := by
  obtain ⟨j, hj⟩ : ∃ j, Tryz.prog.info? 208 = some j := ⟨_, rfl⟩
  have hq := fun a => run_eql_ptr_same (P := Tryz.prog) w a Tryz.underlying107 hj
  clear hj
  go_enter Tryz.func148, Tryz.ntmps148
  go_wp2
  go_ret
  exact ⟨rfl, rfl⟩

set_option maxHeartbeats 400000 in
theorem at_noC (v : Value) (slot : Int) (w : World) (h : NoC w v) : Calls Tryz.prog 147 #[v, .int .i64 slot] w fun e w' => e = .returned (.tuple #[.int .i64 0, .int .i64 1]) ∧ w' = w := by
  have HN := hidden h
  clear h
  go_enter Tryz.func147, Tryz.ntmps147
  go_wp2_with (go_at_call 148; refine (made_noC v _ HN.out).mono ?_; rintro e w' ⟨rfl, rfl⟩)
  go_ret2
  exact ⟨rfl, rfl⟩

theorem SmC.c0 {w : World} {g : Nat} {vp vf : Value} {room : Nat} {ps : List Pl} {fr : List Nat} (h : SmC w g vp vf room ps fr) : w.cell? ⟨g, 0, none⟩ = some (.pointer (some ⟨g, 0, none⟩)) := by rw [h.blk.cell]; rfl
theorem SmC.c1 {w : World} {g : Nat} {vp vf : Value} {room : Nat} {ps : List Pl} {fr : List Nat} (h : SmC w g vp vf room ps fr) : w.cell? ⟨g, 1, none⟩ = some (.int .i64 (room : Int)) := by rw [h.blk.cell]; rfl
theorem SmC.c2 {w : World} {g : Nat} {vp vf : Value} {room : Nat} {ps : List Pl} {fr : List Nat} (h : SmC w g vp vf room ps fr) : w.cell? ⟨g, 2, none⟩ = some vp := by rw [h.blk.cell]; rfl
theorem SmC.c3 {w : World} {g : Nat} {vp vf : Value} {room : Nat} {ps : List Pl} {fr : List Nat} (h : SmC w g vp vf room ps fr) : w.cell? ⟨g, 3, none⟩ = some vf := by rw [h.blk.cell]; rfl
theorem SmC.count {w : World} {g gp n c : Nat} {vf : Value} {room : Nat} {ps : List Pl} {fr : List Nat} (h : SmC w g (.slice (some ⟨gp, 0, none⟩) n c) vf room ps fr) (i : Nat) (hi : i < ps.length) : w.cell? ⟨gp, i * (71 + 1), none⟩ = some (.int .i64 (cnt ps i : Int)) := by
  have hp := h.pls
  obtain rfl : n = ps.length := by
    obtain ⟨_, _, e⟩ := lst_slice hp
    injection e
  rw [lst_cell hp _ (by have := Nat.mul_le_mul_right (71 + 1) (show i + 1 ≤ ps.length from hi); rw [Nat.add_mul] at this; omega)]
  exact flatS_count h.wid i hi

set_option maxHeartbeats 1000000 in
theorem at_badC (g : Nat) (vp vf : Value) (room : Nat) (ps : List Pl) (fr : List Nat) (slot : Int) (w : World) (h : SlC w g vp vf room ps fr) (hv : Vac ps slot) : Calls Tryz.prog 147 #[.pointer (some ⟨g, 0, none⟩), .int .i64 slot] w fun e w' => e = .returned (.tuple #[.int .i64 0, .int .i64 7]) ∧ w' = w := by
  have c0 := h.c0
  have c2 := h.c2
  have HS := hidden h
  obtain ⟨a, c, rfl⟩ := lst_slice h.pls
  by_cases h1 : slot < 1
  · clear h hv
    go_enter Tryz.func147, Tryz.ntmps147
    go_wp2_with (go_at_call 148; refine (made_okC g _ c0).mono ?_; rintro e w' ⟨rfl, rfl⟩)
    go_ret2
    exact ⟨rfl, rfl⟩
  · by_cases h2 : (ps.length : Int) < slot
    · clear h hv
      go_enter Tryz.func147, Tryz.ntmps147
      go_wp2_with (go_at_call 148; refine (made_okC g _ c0).mono ?_; rintro e w' ⟨rfl, rfl⟩)
      go_ret2
      exact ⟨rfl, rfl⟩
    · obtain ⟨i, hi⟩ : ∃ i : Nat, slot - 1 = (i : Int) := ⟨(slot - 1).toNat, by omega⟩
      have hil : i < ps.length := by omega
      have hc := hv i (by omega)
      obtain ⟨gp, c', e, _⟩ := lst_pos h.pls (by omega)
      injection e with e1 _ e3
      subst e1
      subst e3
      have c4 := h.count i hil
      rw [hc] at c4
      have hw : wrap64 (i : Int) = i := Go.IntWalk.wrap64_in _ (by have := h.inv.len; have := h.inv.r2; omega)
      have j0 : (0 : Int) ≤ (i : Int) := by omega
      have j1 : (i : Int) < (ps.length : Int) := by omega
      clear h hv hc
      go_enter Tryz.func147, Tryz.ntmps147
      go_wp2_with (go_at_call 148; refine (made_okC g _ c0).mono ?_; rintro e w' ⟨rfl, rfl⟩)
      go_ret2
      exact ⟨rfl, rfl⟩

theorem SlC.at {w : World} {g : Nat} {vp vf : Value} {room : Nat} {ps : List Pl} {fr : List Nat} (h : SlC w g vp vf room ps fr) (i : Nat) (hi : 0 < cnt ps i) : ∃ gp c, vp = .slice (some ⟨gp, 0, none⟩) ps.length c ∧ w.cell? ⟨gp, i * (71 + 1), none⟩ = some (.int .i64 (cnt ps i : Int)) ∧ i < ps.length ∧ (0 : Int) ≤ (i : Int) ∧ (i : Int) < (ps.length : Int) ∧ wrap64 (i : Int) = i ∧ ps.length ≤ 65536 := by
  have hl := cnt_lt hi
  obtain ⟨gp, c, rfl, _⟩ := lst_pos h.pls (by omega)
  have h1 := h.inv.len
  have h2 := h.inv.r2
  exact ⟨gp, c, rfl, h.count i hl, hl, by omega, by omega, Go.IntWalk.wrap64_in _ (by omega), by omega⟩

set_option maxHeartbeats 1000000 in
theorem at_okC (g : Nat) (vp vf : Value) (room : Nat) (ps : List Pl) (fr : List Nat) (slot : Int) (i : Nat) (w : World) (h : SlC w g vp vf room ps fr) (hs : slot = (i : Int) + 1) (hi : 0 < cnt ps i) : Calls Tryz.prog 147 #[.pointer (some ⟨g, 0, none⟩), .int .i64 slot] w fun e w' => e = .returned (.tuple #[.int .i64 (i : Int), .int .i64 0]) ∧ w' = w := by
  have c0 := h.c0
  have c2 := h.c2
  obtain ⟨gp, c, rfl, c4, hil, j0, j1, hw, hm⟩ := h.at i hi
  have hne : ((cnt ps i : Int) == 0) = false := by simp; omega
  generalize cnt ps i = q at c4 hne
  have h1 : ¬ slot < 1 := by omega
  have h2 : ¬ (ps.length : Int) < slot := by omega
  have h3 : slot - 1 = (i : Int) := by omega
  clear h hs hi
  go_enter Tryz.func147, Tryz.ntmps147
  go_wp2_with (go_at_call 148; refine (made_okC g _ c0).mono ?_; rintro e w' ⟨rfl, rfl⟩)
  go_ret2
  exact ⟨rfl, rfl⟩

set_option maxHeartbeats 400000 in
theorem count_noC (v : Value) (slot : Int) (w : World) (h : NoC w v) : Calls Tryz.prog 172 #[v, .int .i64 slot] w fun e w' => e = .returned (.int .i64 0) ∧ w' = w := by
  have HN := hidden h
  clear h
  go_enter Tryz.func172, Tryz.ntmps172
  go_wp2_with (go_at_call 147; refine (at_noC v slot _ HN.out).mono ?_; rintro e w' ⟨rfl, rfl⟩)
  go_ret
  exact ⟨rfl, rfl⟩

set_option maxHeartbeats 400000 in
theorem count_badC (g : Nat) (vp vf : Value) (room : Nat) (ps : List Pl) (fr : List Nat) (slot : Int) (w : World) (h : SlC w g vp vf room ps fr) (hv : Vac ps slot) : Calls Tryz.prog 172 #[.pointer (some ⟨g, 0, none⟩), .int .i64 slot] w fun e w' => e = .returned (.int .i64 0) ∧ w' = w := by
  have HS := hidden h
  have HV := hidden hv
  clear h hv
  go_enter Tryz.func172, Tryz.ntmps172
  go_wp2_with (go_at_call 147; refine (at_badC g vp vf room ps fr slot _ HS.out HV.out).mono ?_; rintro e w' ⟨rfl, rfl⟩)
  go_ret
  exact ⟨rfl, rfl⟩

set_option maxHeartbeats 400000 in
theorem count_okC (g : Nat) (vp vf : Value) (room : Nat) (ps : List Pl) (fr : List Nat) (slot : Int) (i : Nat) (w : World) (h : SlC w g vp vf room ps fr) (hs : slot = (i : Int) + 1) (hi : 0 < cnt ps i) : Calls Tryz.prog 172 #[.pointer (some ⟨g, 0, none⟩), .int .i64 slot] w fun e w' => e = .returned (.int .i64 (cnt ps i : Int)) ∧ w' = w := by
  have HS := hidden h
  have HI := hidden hi
  have HE := hidden hs
  have c2 := h.c2
  obtain ⟨gp, c, rfl, c4, hil, j0, j1, hw, hm⟩ := h.at i hi
  obtain ⟨q, hq⟩ : ∃ q, q = cnt ps i := ⟨_, rfl⟩
  rw [← hq] at c4 ⊢
  have HQ := hidden hq
  clear h hs hi hq
  go_enter Tryz.func172, Tryz.ntmps172
  go_wp2_with (go_at_call 147; refine (at_okC g _ vf room ps fr slot i _ HS.out HE.out HI.out).mono ?_; rintro e w' ⟨rfl, rfl⟩)
  go_ret
  exact ⟨rfl, rfl⟩

set_option maxHeartbeats 400000 in
theorem len_noC (v : Value) (w : World) (h : NoC w v) : Calls Tryz.prog 64 #[v] w fun e w' => e = .returned (.int .i64 0) ∧ w' = w := by
  have HN := hidden h
  clear h
  go_enter Tryz.func64, Tryz.ntmps64
  go_wp2_with (go_at_call 148; refine (made_noC v _ HN.out).mono ?_; rintro e w' ⟨rfl, rfl⟩)
  go_ret
  exact ⟨rfl, rfl⟩

set_option maxHeartbeats 400000 in
theorem room_noC (v : Value) (w : World) (h : NoC w v) : Calls Tryz.prog 208 #[v] w fun e w' => e = .returned (.int .i64 0) ∧ w' = w := by
  have HN := hidden h
  clear h
  go_enter Tryz.func208, Tryz.ntmps208
  go_wp2_with (go_at_call 148; refine (made_noC v _ HN.out).mono ?_; rintro e w' ⟨rfl, rfl⟩)
  go_ret
  exact ⟨rfl, rfl⟩

set_option maxHeartbeats 400000 in
theorem room_okC (g : Nat) (vp vf : Value) (room : Nat) (ps : List Pl) (fr : List Nat) (w : World) (h : SlC w g vp vf room ps fr) : Calls Tryz.prog 208 #[.pointer (some ⟨g, 0, none⟩)] w fun e w' => e = .returned (.int .i64 (room : Int)) ∧ w' = w := by
  have c0 := h.c0
  have c1 := h.c1
  clear h
  go_enter Tryz.func208, Tryz.ntmps208
  go_wp2_with (go_at_call 148; refine (made_okC g _ c0).mono ?_; rintro e w' ⟨rfl, rfl⟩)
  go_ret
  exact ⟨rfl, rfl⟩

set_option maxHeartbeats 1000000 in
theorem len_okC (g : Nat) (vp vf : Value) (room : Nat) (ps : List Pl) (fr : List Nat) (w : World) (h : SlC w g vp vf room ps fr) : Calls Tryz.prog 64 #[.pointer (some ⟨g, 0, none⟩)] w fun e w' => e = .returned (.int .i64 (occs ps : Int)) ∧ Below w.heap.size w w' := by
  have c0 := h.c0
  have c2 := h.c2
  have c3 := h.c3
  obtain ⟨a, c, rfl⟩ := lst_slice h.pls
  obtain ⟨a', c', rfl⟩ := lst_slice h.frs
  have h1 := h.inv.len
  have h2 := h.inv.r2
  have h3 := h.inv.sum
  have HW : Hid (wrap64 ((ps.length : Int) - (fr.length : Int)) = (occs ps : Int)) := by
    show _ = _
    rw [Go.IntWalk.wrap64_in _ (by omega)]
    omega
  clear h h1 h2 h3
  go_enter Tryz.func64, Tryz.ntmps64
  go_wp2_with (go_at_call 148; refine (made_okC g _ c0).mono ?_; rintro e w' ⟨rfl, rfl⟩)
  go_quiet (fail)
  go_wp2
  go_ret
  exact ⟨by rw [← HW.out]; rfl, below_drewN (Below.refl _ _) _⟩

end Go.Proofs.YtegegoapcdmlhaaGreatDoor

/- A slab's calls that turn it, of things of type store.cell, as contracts: vacant. -/
namespace Go.Proofs.YtegegoapcdmlhaaGreatDoor
set_option maxRecDepth 20000
open Go.RowKit

/-- The slab at g has turned to this, and nothing but its own blocks. -/
def TurnC (w : World) (g : Nat) (S : List Nat) (room : Nat) (ps : List Pl) (fr : List Nat) (w' : World) : Prop := ∃ vp vf, SlC w' g vp vf room ps fr ∧ Mod S w w' ∧ New S w (slB g vp vf)

theorem tne1C : (215 : Nat) ≠ 208 := by decide

theorem tne2C : (3 : Nat) ≠ 208 := by decide

theorem tne3C : (215 : Nat) ≠ 3 := by decide

/-- The places' list stored anew. -/
theorem mk2C {w : World} {g : Nat} {p vp vf vp' : Value} {room : Nat} {ps : List Pl} {fr : List Nat} (hb : Blk w g 208 #[p, .int .i64 (room : Int), vp, vf]) (he : p = .pointer (some ⟨g, 0, none⟩)) (hp : Lst w 215 (71 + 1) vp' ps.length (flatS ps)) (hf : Lst w 3 1 vf fr.length (nats fr)) (hw : Wid 71 ps) : SmC (w.setCell ⟨g, 2, none⟩ vp') g vp' vf room ps fr := by
  have m : Mod [g] w (w.setCell ⟨g, 2, none⟩ vp') := Mod.setCell w g 2 vp' (by simp)
  refine ⟨?_, lst_mod hp m (fun k hk e => ?_), lst_mod hf m (fun k hk e => ?_), hw⟩
  · subst he
    exact hb.set 2 vp'
  · obtain rfl : k = g := by simpa using e
    exact lst_blk_ne hp hb tne1C hk
  · obtain rfl : k = g := by simpa using e
    exact lst_blk_ne hf hb tne2C hk

/-- The free slots' list stored anew. -/
theorem mk3C {w : World} {g : Nat} {p vp vf vf' : Value} {room : Nat} {ps : List Pl} {fr : List Nat} (hb : Blk w g 208 #[p, .int .i64 (room : Int), vp, vf]) (he : p = .pointer (some ⟨g, 0, none⟩)) (hp : Lst w 215 (71 + 1) vp ps.length (flatS ps)) (hf : Lst w 3 1 vf' fr.length (nats fr)) (hw : Wid 71 ps) : SmC (w.setCell ⟨g, 3, none⟩ vf') g vp vf' room ps fr := by
  have m : Mod [g] w (w.setCell ⟨g, 3, none⟩ vf') := Mod.setCell w g 3 vf' (by simp)
  refine ⟨?_, lst_mod hp m (fun k hk e => ?_), lst_mod hf m (fun k hk e => ?_), hw⟩
  · subst he
    exact hb.set 3 vf'
  · obtain rfl : k = g := by simpa using e
    exact lst_blk_ne hp hb tne1C hk
  · obtain rfl : k = g := by simpa using e
    exact lst_blk_ne hf hb tne2C hk

/-- The places written over within their block. -/
theorem SmC.over {w w' : World} {g gp n c : Nat} {vf : Value} {room : Nat} {ps ps' : List Pl} {fr : List Nat} (h : SmC w g (.slice (some ⟨gp, 0, none⟩) n c) vf room ps fr) (m : Mod [gp] w w') (hp : Lst w' 215 (71 + 1) (.slice (some ⟨gp, 0, none⟩) n c) ps'.length (flatS ps')) (hw : Wid 71 ps') : SmC w' g (.slice (some ⟨gp, 0, none⟩) n c) vf room ps' fr := by
  refine ⟨h.blk.mod m ?_, hp, lst_mod h.frs m (fun k hk e => ?_), hw⟩
  · intro e
    obtain rfl : g = gp := by simpa using e
    exact lst_blk_ne h.pls h.blk tne1C rfl
  · obtain rfl : k = gp := by simpa using e
    exact lst_ne h.pls h.frs tne3C k rfl hk

theorem SmC.free {w : World} {g gf n c : Nat} {vp : Value} {room : Nat} {ps : List Pl} {fr : List Nat} (h : SmC w g vp (.slice (some ⟨gf, 0, none⟩) n c) room ps fr) (i : Nat) (hi : i < fr.length) : w.cell? ⟨gf, i, none⟩ = some (.int .i64 (fr.getD i 0 : Nat)) := by
  have hp := h.frs
  obtain rfl : n = fr.length := by
    obtain ⟨_, _, e⟩ := lst_slice hp
    injection e
  rw [lst_cell hp _ (by omega)]
  exact nats_get fr i hi

set_option maxHeartbeats 1000000 in
theorem vac_freeC (g : Nat) (vp vf : Value) (room : Nat) (ps : List Pl) (fr : List Nat) (s : Nat) (w : World) (h : SmC w g vp vf room ps (fr ++ [s])) (hl : fr.length ≤ 65536) : Calls Tryz.prog 211 #[.pointer (some ⟨g, 0, none⟩)] w fun e w' => ∃ vf', e = .returned (.tuple #[.int .i64 (s : Int), .bool true]) ∧ SmC w' g vp vf' room ps fr ∧ Mod [g] w w' ∧ vf'.ownBlock = vf.ownBlock := by
  have c3 := h.c3
  have f3 := h.blk.frozen 3
  have HS := hidden h
  obtain ⟨gf, c, rfl, hcap⟩ := lst_pos h.frs (by simp)
  have c4 := h.free fr.length (by simp)
  rw [show (fr ++ [s]).getD fr.length 0 = s by simp [List.getD]] at c4
  rw [List.length_append, List.length_singleton] at c3 hcap
  have j0 : (0 : Int) ≤ (fr.length : Int) := by omega
  have j1 : (fr.length : Int) < ((fr.length + 1 : Nat) : Int) := by omega
  have j2 : (fr.length : Int) ≤ (c : Int) := by omega
  clear h
  go_enter Tryz.func211, Tryz.ntmps211
  go_wp2
  go_ret2
  have h := HS.out
  have hc := lst_cut (m := fr.length) h.frs (by simp)
  rw [Nat.mul_one, nats_take, List.take_left] at hc
  exact ⟨_, rfl, mk3C h.blk rfl h.pls hc h.wid, Mod.setCell _ _ _ _ (by simp), rfl⟩

set_option maxHeartbeats 1000000 in
theorem vac_fullC (g : Nat) (vp vf : Value) (room : Nat) (ps : List Pl) (w : World) (h : SmC w g vp vf room ps []) (hl : ps.length = room) : Calls Tryz.prog 211 #[.pointer (some ⟨g, 0, none⟩)] w fun e w' => e = .returned (.tuple #[.int .i64 0, .bool false]) ∧ Below w.heap.size w w' := by
  have c1 := h.c1
  have c2 := h.c2
  have c3 := h.c3
  obtain ⟨a, c, rfl⟩ := lst_slice h.frs
  obtain ⟨a', c', rfl⟩ := lst_slice h.pls
  subst hl
  clear h
  go_enter Tryz.func211, Tryz.ntmps211
  go_wp2
  go_quiet (fail)
  go_wp2
  go_ret2
  exact ⟨rfl, below_drewN (Below.refl _ _) _⟩

theorem zplC : Tryz.prog.built 215 [] = some (Value.int .i64 0 :: zcl).toArray := by kernel_rfl

theorem zoneC : ∀ u ∈ (Value.int .i64 0 :: zcl), u.oneCell' = true := fun u hu => List.all_eq_true.1 (show (Value.int .i64 0 :: zcl).all (·.oneCell') = true from rfl) u hu

theorem xoneC (z : List Value) (hz : Th z) (c : Int) : ∀ u ∈ (Value.int .i64 c :: z), u.oneCell' = true := fun u hu => by
  rcases List.mem_cons.1 hu with rfl | hu
  · rfl
  · exact hz.2 u hu

theorem xlenC (z : List Value) (hz : Th z) : (z : List Value).length = 71 := hz.1

set_option maxHeartbeats 1000000 in
theorem vac_newC (g : Nat) (vp vf : Value) (room : Nat) (ps : List Pl) (w : World) (h : SmC w g vp vf room ps []) (hl : ps.length < room) (hr : room ≤ 65536) : Calls Tryz.prog 211 #[.pointer (some ⟨g, 0, none⟩)] w fun e w' => ∃ vp', e = .returned (.tuple #[.int .i64 ((ps.length + 1 : Nat) : Int), .bool true]) ∧ SmC w' g vp' vf room (ps ++ [(0, zcl)]) [] ∧ Mod (slB g vp vf) w w' ∧ WhereL w vp vp' := by
  have c1 := h.c1
  have c2 := h.c2
  have c3 := h.c3
  have f2 := h.blk.frozen 2
  have HS := hidden h
  obtain ⟨a, c, rfl⟩ := lst_slice h.frs
  obtain ⟨a', c', rfl⟩ := lst_slice h.pls
  have hne : ((ps.length : Int) == (room : Int)) = false := by simp; omega
  clear h
  go_enter Tryz.func211, Tryz.ntmps211
  go_wp2
  go_quiet (fail)
  obtain ⟨w1, hw1⟩ : ∃ x, x = w.drewN nq := ⟨_, rfl⟩
  have HM : Hid (Mod [] w w1) := by rw [hw1]; exact Mod.drewN _ _ _
  have HS1 : Hid (SmC w1 g (.slice a' ps.length c') (.slice a 0 c) room ps []) := HS.out.mod HM.out (fun _ _ h => by cases h)
  rw [← hw1]
  clear c1 c2 c3 f2 HS hw1
  have c2 := HS1.out.c2
  have f2 := HS1.out.blk.frozen 2
  have HL : Hid (ps.length + 1 ≤ 65536) := by show ps.length + 1 ≤ 65536; omega
  clear hl hr
  go_wp2_with (at_builtin; refine wpList_appL _ rfl _ _ _ rfl 215 (71 + 1) 144 Tryz.underlying206 info_plC (by omega) _ ps.length (flatS ps) rfl (lst_grow HS1.out.pls (grow_alloc _ _)) w1.heap.size (Value.int .i64 0 :: zcl) rfl (Blk.new _ _ _) rfl zoneC (by have := HL.out; simp only [maxLen]; omega) (by have := HL.out; omega) ?_; intro v' w2 h2 g2 wh; obtain ⟨a2, c4, rfl⟩ := lst_slice h2; have hb2 := (HS1.out.blk.grow (grow_alloc w1 (.cells (Value.int .i64 0 :: zcl).toArray 215))).of_block (g2.block g (by have := HS1.out.blk.lt; simp; omega) (fun e => lst_blk_ne HS1.out.pls HS1.out.blk tne1C e.symm)); have c5 : w2.cell? ⟨g, 2, none⟩ = some (.slice a' ps.length c') := (by rw [hb2.cell]; rfl); have f5 := hb2.frozen 2)
  go_ret2
  have hpl : Lst w2 215 (71 + 1) (.slice a2 (ps.length + 1) c4) (ps ++ [(0, zcl)]).length (flatS (ps ++ [(0, zcl)])) := by
    rw [flatS_snoc, List.length_append, List.length_singleton]
    exact h2
  have hwd : Wid 71 (ps ++ [(0, zcl)]) := HS1.out.wid.snoc 0 _ rfl (fun u hu => zoneC u (by simp only [List.mem_cons]; exact .inr (by simpa using hu)))
  have hfr : Lst w2 3 1 (.slice a 0 c) 0 (nats []) := lst_mod (lst_grow HS1.out.frs (grow_alloc _ _)) (Mod.of_grown g2 (S := slB g (.slice a' ps.length c') (.slice none 0 0)) (fun k hk => slB_mem.2 (.inr (.inl hk)))) (fun k hk hn => by
    rcases slB_mem.1 hn with rfl | h | h
    · exact lst_blk_ne HS1.out.frs HS1.out.blk tne2C hk
    · exact lst_ne HS1.out.pls HS1.out.frs tne3C k h hk
    · cases h)
  refine ⟨_, rfl, mk2C hb2 rfl hpl hfr hwd, ?_, ?_⟩
  · have m1 : Mod (slB g (.slice a' ps.length c') (.slice a 0 c)) w w1 := HM.out.mono (fun _ h => by cases h)
    have m2 : Mod (slB g (.slice a' ps.length c') (.slice a 0 c)) w1 w2 := (Mod.alloc w1 _ _).trans' (Mod.of_grown g2 (fun k hk => slB_mem.2 (.inr (.inl hk))))
    exact (m1.trans' m2).trans' (Mod.setCell _ _ _ _ (slB_mem.2 (.inl rfl)))
  · rcases wh with e | ⟨k, e, hk⟩
    · exact .inl e
    · refine .inr ⟨k, e, ?_⟩
      have := HM.out.size
      simp at hk
      omega

end Go.Proofs.YtegegoapcdmlhaaGreatDoor
