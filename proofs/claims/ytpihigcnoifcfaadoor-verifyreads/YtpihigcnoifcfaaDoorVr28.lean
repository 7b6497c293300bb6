/- The document's root at a depth, as a contract. -/
import Derived.Test.YtpihigcnoifcfaaDoorVr27
import Derived.Test.YtpihigcnoifcfaaDoorVr19
namespace Go.Proofs.YtpihigcnoifcfaaDoor
set_option maxRecDepth 20000
open Go.RowKit

theorem b32_facts (D : List Int) (h : D.length = 32) : (Tryd.prog.info? 22).map (·.size) = some (B D).size ∧ (B (List.replicate 32 0)).size = (B D).size := ⟨by rw [B_size, h]; exact size_b32, by rw [B_size, B_size, h]; rfl⟩

theorem rt_length (n d : Nat) (es : List Ent) : (rt n d es).length = 32 := by
  match n, es with
  | _, [] => rw [rt_nil]; exact dig_length _
  | _, [x] => rw [rt_one]; exact dig_length _
  | 0, _ :: _ :: _ => exact dig_length _
  | n + 1, a :: b :: l => rw [rt_more n d _ (by simp)]; exact dig_length _
theorem rt_bytes (n d : Nat) (es : List Ent) : Bytes (rt n d es) := by
  match n, es with
  | _, [] => rw [rt_nil]; exact dig_bytes _
  | _, [x] => rw [rt_one]; exact dig_bytes _
  | 0, _ :: _ :: _ => exact dig_bytes _
  | n + 1, a :: b :: l => rw [rt_more n d _ (by simp)]; exact dig_bytes _

/-- All keys have the same first d bits. -/
def SamE (es : List Ent) (d : Nat) : Prop := ∀ a ∈ es, ∀ b ∈ es, ∀ j, j < d → kb a.1 j = kb b.1 j
theorem SamE.side {es : List Ent} {d : Nat} (hd : d < 256) (b : Int) (h : SamE es d) : SamE (sideOf es d b) (d + 1) := by
  intro x hx y hy j hj
  unfold sideOf at hx hy
  rw [List.mem_filter, beq_iff_eq, kbi_in _ _ hd] at hx hy
  by_cases e : j = d
  · rw [e, hx.2, hy.2]
  · exact h x hx.1 y hy.1 j (by omega)
theorem SamE.few {es : List Ent} (hk : ∀ e ∈ es, Key e.1) (ha : Apart1 es) (h : SamE es 256) : es.length ≤ 1 := by
  match es, hk, ha, h with
  | [], _, _, _ => simp
  | e :: r, hk, ha, h => exact Share.few (key := e.1) hk ha (fun x hx j hj => h x hx e (by simp) j hj)

end Go.Proofs.YtpihigcnoifcfaaDoor

/- Entries appended one by one, with where they lie (moved out of Cpb5). -/
namespace Go.Proofs.YtpihigcnoifcfaaDoor
set_option maxRecDepth 20000
open Go.RowKit

/-- A list's block behind an append. -/
def Where (w : World) (v v' : Value) : Prop := v'.ownBlock = v.ownBlock ∨ ∃ k, v'.ownBlock = some k ∧ w.heap.size ≤ k

end Go.Proofs.YtpihigcnoifcfaaDoor

/- rootcellarkit.CopyBytes, CopyPairs and Pick, as contracts; entries appended, with where they lie. -/
namespace Go.Proofs.YtpihigcnoifcfaaDoor
set_option maxRecDepth 20000
open Go.RowKit

def paPlaces : Nat → Option (Nat × Nat) := fun i => (#[(0, 32), (32, 1)] : Array (Nat × Nat))[i]?

end Go.Proofs.YtpihigcnoifcfaaDoor
