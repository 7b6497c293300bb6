/- The document's Check, Encode, Digest of nodes, as contracts. -/
import Derived.Test.YtpbmpmiicdpehabGreatDoorDb36
import Derived.Test.YtpbmpmiicdpehabGreatDoorDb20
import Derived.Test.YtpbmpmiicdpehabGreatDoorDb19
import Derived.Test.YtpbmpmiicdpehabGreatDoorDb40
import Derived.Test.YtpbmpmiicdpehabGreatDoorDb37
namespace Go.Proofs.YtpbmpmiicdpehabGreatDoor
set_option maxRecDepth 20000
open Go.RowKit

theorem wpList_ldmg {ops : Array Oper} {rest : List Oper} {op : Oper} {a : Act} {Q : Exit → Act → World → Prop} (w : World) (hgd : Region.wanted op (yielded ops a.tmps) = true) (x : Operand) (ty : TypeId) (ho : op.op = .load ty x)
    (g o : Nat) (t : TypeId) (zs xs : List Int) (hx : a.eval x = .pointer (some ⟨g, o, none⟩)) (h : Blk w g t (B zs)) (hs : Seg zs o xs) (n : Nat) (e : TypeId) (hu : Tryz.prog.underlying ty = some (.array n e)) (hi : (Tryz.prog.info? ty).map (·.size) = some xs.length)
    (hk : wpList Tryz.prog ops Q rest (a.put op.dst (.agg (B xs))) w) : wpList Tryz.prog ops Q (op :: rest) a w :=
  BigFrame.wpList_want hgd fun _ hK => wp_load_mid ty x ho g o hx (xs.map (Value.int .u8)) _ (hs.range h) hu rfl (by rw [hi]; simp) (hK _ _ hk)

theorem wpList_bldg {ops : Array Oper} {rest : List Oper} {op : Oper} {a : Act} {Q : Exit → Act → World → Prop} (w : World) (hgd : Region.wanted op (yielded ops a.tmps) = true) (ty : TypeId) (parts : Array (Nat × Operand)) (ho : op.op = .build ty parts)
    (cs : Array Value) (h : Tryz.prog.built ty (parts.map fun (i, x) => (i, a.eval x)).toList = some cs)
    (hk : wpList Tryz.prog ops Q rest (a.put op.dst (.agg cs)) w) : wpList Tryz.prog ops Q (op :: rest) a w := by
  refine BigFrame.wpList_want hgd fun K hK => ?_
  unfold Oper.wp execOp
  simp only [ho, Sem.run_bind, run_build w ty _ cs h, Result.andThen_ok, Sem.run_pure]
  exact hK _ _ hk

theorem built_path : Tryz.prog.built 32 [] = some (B z32) := by kernel_rfl

end Go.Proofs.YtpbmpmiicdpehabGreatDoor

/- rootcellarkit.KeptPairs and the law's few, as contracts. -/
namespace Go.Proofs.YtpbmpmiicdpehabGreatDoor
set_option maxRecDepth 20000
open Go.RowKit

/-- cap of a slice of entries. -/
theorem wpList_capP {ops : Array Oper} {rest : List Oper} {o : Oper} {a : Act} {Q : Exit → Act → World → Prop} (w : World) (hgd : o.guard = none) (x : Operand)
    (hop : o.op = .call { callee := .builtin .cap, args := #[x], argTypes := #[22] }) (b : Option Addr) (n c : Nat) (hx : a.eval x = .slice b n c)
    (h : wpList Tryz.prog ops Q rest (a.put o.dst (.int .i64 c)) w) : wpList Tryz.prog ops Q (o :: rest) a w := by
  refine wpList_plain hgd fun K hK => ?_
  have hr := run_cap_slice (P := Tryz.prog) w 22 o.type b n c (by kernel_rfl)
  unfold Oper.wp execOp
  simp only [hop, resolve, invoke, builtin, Sem.run_bind, Sem.run_pure, Result.andThen_ok, List.map_toArray, List.map_cons, List.map_nil, hx, hr]
  exact hK _ _ h

end Go.Proofs.YtpbmpmiicdpehabGreatDoor

/- The document's root at a depth, as a contract. -/
namespace Go.Proofs.YtpbmpmiicdpehabGreatDoor
set_option maxRecDepth 20000
open Go.RowKit

theorem b32_facts (D : List Int) (h : D.length = 32) : (Tryz.prog.info? 31).map (·.size) = some (B D).size ∧ (B (List.replicate 32 0)).size = (B D).size := ⟨by rw [B_size, h]; exact size_b32, by rw [B_size, B_size, h]; rfl⟩

theorem rt_length (n d : Nat) (es : List Ent) : (rt n d es).length = 32 := by
  match n, es with
  | _, [] => rw [rt_nil]; exact dig_length _
  | _, [x] => rw [rt_one]; exact dig_length _
  | 0, _ :: _ :: _ => exact dig_length _
  | n + 1, a :: b :: l => rw [rt_more n d _ (by simp)]; exact dig_length _
theorem rt_bytes (n d : Nat) (es : List Ent) : Bytes (rt n d es) := by
  match n, es with
  | _, [] => rw [rt_nil]; exact dig_bytes _
  | _, [x] => rw [rt_one]; exact dig_bytes _
  | 0, _ :: _ :: _ => exact dig_bytes _
  | n + 1, a :: b :: l => rw [rt_more n d _ (by simp)]; exact dig_bytes _

/-- All keys have the same first d bits. -/
def SamE (es : List Ent) (d : Nat) : Prop := ∀ a ∈ es, ∀ b ∈ es, ∀ j, j < d → kb a.1 j = kb b.1 j
theorem SamE.side {es : List Ent} {d : Nat} (hd : d < 256) (b : Int) (h : SamE es d) : SamE (sideOf es d b) (d + 1) := by
  intro x hx y hy j hj
  unfold sideOf at hx hy
  rw [List.mem_filter, beq_iff_eq, kbi_in _ _ hd] at hx hy
  by_cases e : j = d
  · rw [e, hx.2, hy.2]
  · exact h x hx.1 y hy.1 j (by omega)
theorem SamE.few {es : List Ent} (hk : ∀ e ∈ es, Key e.1) (ha : Apart1 es) (h : SamE es 256) : es.length ≤ 1 := by
  match es, hk, ha, h with
  | [], _, _, _ => simp
  | e :: r, hk, ha, h => exact Share.few (key := e.1) hk ha (fun x hx j hj => h x hx e (by simp) j hj)

end Go.Proofs.YtpbmpmiicdpehabGreatDoor
