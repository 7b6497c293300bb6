/- What an argument is in memory that is a pair of texts (a Clash). -/
import Derived.Test.YtagkmfgoahbclaaBo03
import Derived.ChangeSame
import Derived.Deep.Slices
import Derived.Test.YtagkmfgoahbclaaBo02
import Derived.Lib.Bytealg
import Derived.Deep.QuietTactic
import Derived.BigQuiet
namespace Go.Proofs.Ytagkmfgoahbclaa
set_option maxRecDepth 20000
open Go.ChangeShapes Go.WideShapes Go.ChangeAt Go.RowKit

/-- A slice of bytes in the midst of what came in. -/
theorem trod_sized {H : Type} {enc : TypeId × Value → H} {W : World} {fuel : Nat} {v : Value} {d : DataW H} {p : List MemPlace} (hf : DataW.trod enc Try.prog W 0 (fun _ => true) true fuel 35 [v] = some (d, p))
    {ts : List TypeId} {ds : List (DataW H)} (hsz : (DataW.weightsEach Try.prog ts ds).all (· ≤ reachBytes) = true) (j : Nat) (ht : ts[j]? = some 35) (hd : ds[j]? = some d) :
    ∃ zs, Reads W v zs ∧ zs.length ≤ 140737488355328 - 4096 := by
  rcases open_ints u_bytes u_byte cells_byte hf with ⟨hcs, hx⟩ | ⟨x, l, c, zs, hcs, _, hl, hm, hz, hx, hcell, hwz⟩
  · simp only [List.cons.injEq, and_true] at hcs
    subst hcs
    exact ⟨[], Reads.nil _, by simp⟩
  · simp only [List.cons.injEq, and_true] at hcs
    subst hcs
    simp at hz
    simp only [Prod.mk.injEq] at hx
    have hlen : (zs.take l).length = l := by simp; omega
    have hs := sized_slice hsz ht (by rw [hd, hx.1]) u_bytes
    rw [bytesOf_byte] at hs
    simp only [lits, List.length_map, List.length_take, List.length_drop, reachBytes] at hs
    refine ⟨zs.take l, ⟨some x, c, by rw [hlen], by omega, fun h => by simp at h, ?_, ?_⟩, by omega⟩
    · intro z hz'
      have := bounds_u8 (hwz z (List.mem_of_mem_take hz'))
      omega
    · intro hp
      rw [hlen] at hp
      obtain ⟨b, off, spot⟩ := x
      have hspot : spot = none := by
        have := World.cell?_spot (hcell 0 (by omega))
        simpa [Addr.add] using this
      subst hspot
      refine ⟨b, off, rfl, fun i hi => ?_⟩
      rw [hlen] at hi
      have := hcell i (by omega)
      rw [Addr.add_lit] at this
      rw [this]
      simp [List.getD, hi]

end Go.Proofs.Ytagkmfgoahbclaa

/- octet.Compare and the document's Compare, as contracts: both tell the order of two lists of bytes. -/
namespace Go.Proofs.Ytagkmfgoahbclaa
set_option maxRecDepth 20000
open Go.RowKit

/-- The order of two lists, the first unlike number telling; a beginning ahead of what goes on. -/
def cmp : List Int → List Int → Int
  | [], [] => 0
  | [], _ :: _ => -1
  | _ :: _, [] => 1
  | a :: r, b :: s => if a < b then -1 else if b < a then 1 else cmp r s

theorem cmp_bytes : ∀ (xs ys : List Int), Bytes xs → Bytes ys → Lib.compareBytes (xs.map fun n => UInt8.ofNat n.toNat) (ys.map fun n => UInt8.ofNat n.toNat) = cmp xs ys
  | [], [], _, _ => rfl
  | [], _ :: _, _, _ => rfl
  | _ :: _, [], _, _ => rfl
  | a :: r, b :: s, ha, hb => by
    have h1 := ha a (by simp)
    have h2 := hb b (by simp)
    have ih := cmp_bytes r s (fun z hz => ha z (by simp [hz])) (fun z hz => hb z (by simp [hz]))
    have e : ∀ x y : Int, 0 ≤ x ∧ x ≤ 255 → 0 ≤ y ∧ y ≤ 255 → (UInt8.ofNat x.toNat < UInt8.ofNat y.toNat ↔ x < y) := by
      intro x y hx hy
      rw [UInt8.lt_iff_toNat_lt, UInt8.toNat_ofNat', UInt8.toNat_ofNat']
      omega
    simp only [List.map_cons, Lib.compareBytes, cmp, ih, e a b h1 h2, e b a h2 h1]

theorem load_bytes : ∀ (zs : List Int) (b off : Nat) (acc : ByteArray) (w : World), (∀ i, i < zs.length → w.cell? ⟨b, off + i, none⟩ = some (.int .u8 (zs.getD i 0))) →
    (Extern.Bytes.loadBytes ⟨b, off, none⟩ zs.length acc).run Try.prog w = .ok (zs.foldl (fun r n => r.push (n.toNat.toUInt8)) acc) w
  | [], _, _, _, _, _ => by simp [Extern.Bytes.loadBytes]
  | z :: zs, b, off, acc, w, h => by
    have h0 := h 0 (by simp)
    simp only [Nat.add_zero, List.getD_cons_zero] at h0
    have hl : (load ⟨b, off, none⟩).run Try.prog w = .ok (.int .u8 z) w := by
      simp [go_sem, h0]
    have ih := load_bytes zs b (off + 1) (acc.push z.toNat.toUInt8) w (fun i hi => by
      have := h (i + 1) (by simpa using hi)
      rw [show off + 1 + i = off + (i + 1) by omega]
      simpa using this)
    simp only [List.length_cons, Extern.Bytes.loadBytes, Sem.run_bind, hl, Result.andThen_ok, Addr.add_lit, ih, List.foldl_cons]

theorem bytesOf_reads {w : World} {v : Value} {zs : List Int} (h : Reads w v zs) : (Extern.Bytes.bytesOf v).run Try.prog w = .ok (strOfNums zs) w := by
  obtain ⟨a, c, rfl, h1, h2, h3, h4⟩ := h
  have hfold : zs.foldl (fun r n => r.push (n.toNat.toUInt8)) ByteArray.empty = strOfNums zs := by
    have := foldl_push_bytes zs ByteArray.empty
    have e : (fun (r : ByteArray) (n : Int) => r.push (n.toNat.toUInt8)) = fun r n => r.push (UInt8.ofNat n.toNat) := rfl
    rw [e, this]
    simp [strOfNums, ByteArray.empty, ByteArray.emptyWithCapacity]
    rfl
  cases a with
  | none =>
    have hz : zs = [] := by
      by_cases hz : zs = []
      · exact hz
      · obtain ⟨_, _, e, _⟩ := h4 (List.length_pos_iff.2 hz)
        cases e
    subst hz
    rfl
  | some x =>
    by_cases hz : zs = []
    · subst hz
      rfl
    · obtain ⟨b, off, e, hc⟩ := h4 (List.length_pos_iff.2 hz)
      injection e with e
      subst e
      show (Extern.Bytes.loadBytes ⟨b, off, none⟩ zs.length .empty).run Try.prog w = _
      rw [load_bytes zs b off _ w hc, hfold]

theorem call_cmp {w : World} {x y : Value} {xs ys : List Int} (hx : Reads w x xs) (hy : Reads w y ys) : (callFunc 33 #[x, y]).run Try.prog w = .ok (.value (.int .i64 (cmp xs ys))) w := by
  have b1 : Bytes xs := by obtain ⟨_, _, _, _, _, h, _⟩ := hx; exact h
  have b2 : Bytes ys := by obtain ⟨_, _, _, _, _, h, _⟩ := hy; exact h
  rw [run_callFunc_extern Try.func33 (by kernel_rfl) (by kernel_rfl) (by kernel_rfl) (e := Extern.BytealgCompare.compare) (by kernel_rfl)]
  have e : Extern.BytealgCompare.compare #[x, y] = (do pure (goInt (Extern.BytealgCompare.cmp (← Extern.Bytes.bytesOf x) (← Extern.Bytes.bytesOf y)))) := rfl
  rw [e]
  simp only [Sem.run_bind, bytesOf_reads hx, bytesOf_reads hy, Result.andThen_ok, Sem.run_pure]
  rw [Lib.cmp_eq, strOfNums_data, strOfNums_data, cmp_bytes xs ys b1 b2]
  rfl

set_option maxHeartbeats 400000 in
theorem bcompare_any (x y : Value) (xs ys : List Int) (w : World) (hx : Reads w x xs) (hy : Reads w y ys) :
    Calls Try.prog 30 #[x, y] w fun e w' => e = .returned (.int .i64 (cmp xs ys)) ∧ w' = w := by
  have hc := call_cmp hx hy
  clear hx hy
  generalize cmp xs ys = r at *
  go_enter Try.func30, Try.ntmps30
  go_wp2
  go_ret
  exact ⟨rfl, rfl⟩

set_option maxHeartbeats 400000 in
theorem compare_any (x y : Value) (xs ys : List Int) (w : World) (hx : Reads w x xs) (hy : Reads w y ys) :
    Calls Try.prog 28 #[x, y] w fun e w' => e = .returned (.int .i64 (cmp xs ys)) ∧ w' = w := by
  have H := hidden (bcompare_any x y xs ys w hx hy)
  clear hx hy
  go_enter Try.func28, Try.ntmps28
  go_wp2_with (go_at_call 30; refine H.out.mono ?_; rintro e w' ⟨rfl, rfl⟩)
  go_ret
  exact ⟨rfl, rfl⟩

theorem drewN_add (w : World) (a b : Nat) : (w.drewN a).drewN b = w.drewN (a + b) := by
  simp [World.drewN, Nat.add_assoc]
theorem drew2 (w : World) (a b : Nat) : ∃ d, (w.drewN a).drewN b = w.drewN d := ⟨_, drewN_add w a b⟩
theorem drew3 (w : World) (a b c : Nat) : ∃ d, ((w.drewN a).drewN b).drewN c = w.drewN d := ⟨_, by rw [drewN_add, drewN_add]⟩

theorem drop_getD (xs : List Int) (k : Nat) (h : k < xs.length) : xs.drop k = xs.getD k 0 :: xs.drop (k + 1) := by
  rw [List.drop_eq_getElem_cons h]; simp [List.getD, h]

end Go.Proofs.Ytagkmfgoahbclaa
