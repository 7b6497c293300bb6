/- node.bare, Check, is, as contracts. -/
import Derived.Test.YtkhinjkcfjncgaaGreatDoorKn07
import Derived.Deep.RegionHeld
import Derived.Deep.RegionHeld2
import Derived.Test.YtkhinjkcfjncgaaGreatDoorKn17
namespace Go.Proofs.YtkhinjkcfjncgaaGreatDoor
set_option maxRecDepth 20000
open Go.RowKit

/-- A node that may be. -/
def okN (k : Int) (a b c d : List Int) : Bool := decide ((k = 0 ∧ a = z32 ∧ b = z32 ∧ c = z32 ∧ d = z32) ∨ (k = 1 ∧ c = z32 ∧ d = z32) ∨ (k = 2 ∧ a = z32 ∧ b = z32))

theorem z_nd : Nd 0 z32 z32 z32 z32 := ⟨by omega, by omega, rfl, rfl, rfl, rfl, z32_bytes, z32_bytes, z32_bytes, z32_bytes⟩

def BarePost (k : Int) (a b c d : List Int) (w : World) (e : Ending) (w' : World) : Prop :=
  ∃ k' a' b' c' d', e = .returned (.agg (B (nd k' a' b' c' d'))) ∧ Nd k' a' b' c' d' ∧ okN k a b c d = decide (nd k a b c d = nd k' a' b' c' d') ∧ Below w.heap.size w w'

def okE (k : Int) (a b c d : List Int) : Int := if okN k a b c d = true then 0 else 2

end Go.Proofs.YtkhinjkcfjncgaaGreatDoor

/- Texts that were just made: where they lie; lists of such texts. -/
namespace Go.Proofs.YtkhinjkcfjncgaaGreatDoor
set_option maxRecDepth 20000
open Go.RowKit

/-- What a call leaves that tells a new text of n bytes. -/
def TxtPost (zs : List Int) (n : Nat) (w : World) (e : Ending) (w' : World) : Prop :=
  ∃ g c sp, e = .returned (.slice (some ⟨g, 0, none⟩) n c) ∧ w.heap.size ≤ g ∧ g < w'.heap.size ∧ Own w.heap.size w' (.slice (some ⟨g, 0, none⟩) n c) zs sp ∧ Below w.heap.size w w'

theorem txt_of_join {zs : List Int} {n : Nat} {w : World} {e : Ending} {w' : World} (hn : zs.length = n) (hp : 0 < n) (h : JoinPost zs w e w') : TxtPost zs n w e w' := by
  obtain ⟨v, sp, rfl, hO, hb⟩ := h
  subst hn
  have hl := hO.lt
  obtain ⟨h1, h2, h3, h4⟩ := hO
  rcases h4 with ⟨_, rfl, _⟩ | ⟨g, rest, hg, rfl, h5⟩
  · simp at hp
  · exact ⟨g, _, sp, rfl, hg, (hl g rfl).2, ⟨h1, h2, h3, .inr ⟨g, rest, hg, rfl, h5⟩⟩, hb⟩

theorem refLeafText_new (K A : List Int) (w : World) (hk : K.length = 32) (ha : A.length = 32) (bk : Bytes K) (ba : Bytes A) : Calls Tryz.prog 196 #[.agg (B K), .agg (B A)] w (TxtPost (1 :: (K ++ A)) 65 w) :=
  (refLeafText_any K A w hk ha bk ba).mono fun _ _ h => txt_of_join (by simp [hk, ha]) (by omega) h

theorem refInnerText_new (K A : List Int) (w : World) (hk : K.length = 32) (ha : A.length = 32) (bk : Bytes K) (ba : Bytes A) : Calls Tryz.prog 197 #[.agg (B K), .agg (B A)] w (TxtPost (2 :: (K ++ A)) 65 w) :=
  (refInnerText_any K A w hk ha bk ba).mono fun _ _ h => txt_of_join (by simp [hk, ha]) (by omega) h

theorem refText_new (t : Int) (v : Value) (ps : List (List Int)) (n : Nat) (w : World) (h0 : 0 ≤ t) (h1 : t ≤ 255) (h : Parts w v ps) (hl : 1 + ps.flatten.length ≤ 140737488355328) (hn : ps.flatten.length + 1 = n) :
    Calls Tryz.prog 198 #[.int .u8 t, v] w (TxtPost (t :: ps.flatten) n w) := (refText_any t v ps w h0 h1 h hl).mono fun _ _ h => txt_of_join hn (by omega) h

theorem refText_one (v : Value) (zs : List Int) (w : World) (h : Parts w v [zs]) (hl : zs.length < 140737488355328) : Calls Tryz.prog 198 #[.int .u8 3, v] w (TxtPost (3 :: zs) (zs.length + 1) w) := by
  have h1 := refText_new 3 v [zs] (zs.length + 1) w (by omega) (by omega) h (by simp; omega) (by simp)
  rw [show [zs].flatten = zs by simp] at h1
  exact h1

theorem refText_nil (w : World) : Calls Tryz.prog 198 #[.int .u8 0, .slice none 0 0] w (TxtPost [0] 1 w) := refText_new 0 _ [] 1 w (by omega) (by omega) (parts_nil w) (by simp) rfl

theorem Parts.grow {w w' : World} {v : Value} {ps : List (List Int)} (h : Parts w v ps) (hb : Below w.heap.size w w') : Parts w' v ps := by
  obtain ⟨a, cap, V, rfl, h1, h2, h3, h4⟩ := h
  refine ⟨a, cap, V, rfl, h1, h2, fun hp => ?_, fun i hi => (h4 i hi).grow hb⟩
  obtain ⟨b, off, e, hc⟩ := h3 hp
  exact ⟨b, off, e, fun i hi => (hb.cell (p := ⟨b, off + i, none⟩) (block_lt_of_cell (hc i hi))).trans (hc i hi)⟩

/-- A new list of values that read as these bytes. -/
theorem parts_new (w : World) (vs : List Value) (ps : List (List Int)) (n : Nat) (hn : ps.length = n) (hv : vs.length = n) (hp : n ≤ 140737488355328) (h : ∀ i, i < n → Reads w (vs.getD i undef) (ps.getD i [])) :
    Parts (w.alloc (.cells vs.toArray 73)) (.slice (some ⟨w.heap.size, 0, none⟩) n n) ps := by
  subst hn
  refine ⟨_, ps.length, fun i => vs.getD i undef, rfl, Nat.le_refl _, hp, fun _ => ⟨w.heap.size, 0, rfl, fun i hi => ?_⟩, fun i hi => (h i hi).grow (grow_alloc w _)⟩
  have hr : (w.alloc (.cells vs.toArray 73)).heap[w.heap.size]? = some (.cells vs.toArray 73 (0, 0)) := heap_alloc_new w _
  rw [cell_of_row _ _ _ _ _ _ hr]
  simp [List.getD, hv, hi]

end Go.Proofs.YtkhinjkcfjncgaaGreatDoor

/- node.Encode, node.Digest, as contracts. -/
namespace Go.Proofs.YtkhinjkcfjncgaaGreatDoor
set_option maxRecDepth 20000
open Go.RowKit

/-- What a walk asks of a node in a block. -/
structure NdF (N : List Int) (k : Int) (a b c d : List Int) : Prop where
  kd : ∀ w g t, Blk w g t (B N) → w.cell? ⟨g, 0, none⟩ = some (.int .u8 k)
  sa : Seg N 1 a
  sb : Seg N 33 b
  sc : Seg N 65 c
  sd : Seg N 97 d
  la : (Tryz.prog.info? 72).map (·.size) = some a.length
  lb : (Tryz.prog.info? 103).map (·.size) = some b.length
  lc : (Tryz.prog.info? 103).map (·.size) = some c.length
  ld : (Tryz.prog.info? 103).map (·.size) = some d.length
  ln : (Tryz.prog.info? 143).map (·.size) = some (B N).size
  ll : (Tryz.prog.info? 143).map (·.size) = some (B N).toList.length

theorem Nd.facts {k : Int} {a b c d : List Int} (h : Nd k a b c d) : NdF (nd k a b c d) k a b c d :=
  ⟨fun _ _ _ q => Nd.kind q, h.segA, h.segB, h.segC, h.segD, by rw [h.la]; exact sz_path, by rw [h.lb]; exact sz_hash, by rw [h.lc]; exact sz_hash, by rw [h.ld]; exact sz_hash, by rw [h.size]; exact size_node, by rw [Array.length_toList, h.size]; exact size_node⟩

/-- A node's text; nothing of one that may not be. -/
def txN (k : Int) (a b c d : List Int) : List Int := if okN k a b c d = true then (if k = 1 then 1 :: (a ++ b) else if k = 2 then 2 :: (c ++ d) else [0]) else []
def dgN (k : Int) (a b c d : List Int) : List Int := if okN k a b c d = true then dig (txN k a b c d) else z32

def EncPost (k : Int) (a b c d : List Int) (w : World) (e : Ending) (w' : World) : Prop :=
  ∃ v sp, e = .returned (.tuple #[v, .int .i64 (okE k a b c d)]) ∧ Own w.heap.size w' v (txN k a b c d) sp ∧ Below w.heap.size w w'
def DigNPost (k : Int) (a b c d : List Int) (w : World) (e : Ending) (w' : World) : Prop :=
  e = .returned (.tuple #[.agg (B (dgN k a b c d)), .int .i64 (okE k a b c d)]) ∧ Below w.heap.size w w'

theorem Own.later {b b' : Nat} {w : World} {v : Value} {zs sp : List Int} (h : Own b w v zs sp) (hb : b' ≤ b) : Own b' w v zs sp := by
  obtain ⟨h1, h2, h3, h4⟩ := h
  refine ⟨h1, h2, h3, ?_⟩
  rcases h4 with h4 | ⟨g, hid, hg, h5⟩
  · exact .inl h4
  · exact .inr ⟨g, hid, Nat.le_trans hb hg, h5⟩

theorem z32_hash : B z32 = B (List.replicate 32 0) := rfl

theorem built_hash : Tryz.prog.built 103 [] = some (B z32) := by kernel_rfl

end Go.Proofs.YtkhinjkcfjncgaaGreatDoor
