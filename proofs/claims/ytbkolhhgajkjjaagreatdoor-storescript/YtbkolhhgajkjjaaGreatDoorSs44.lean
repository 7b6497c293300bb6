/- StoreNone's walk: what is no store answers as no store, whatever is asked. -/
import Derived.Test.YtbkolhhgajkjjaaGreatDoorSs01
import Derived.Test.YtbkolhhgajkjjaaGreatDoorSs43
import Derived.Test.YtbkolhhgajkjjaaGreatDoorSs33
import Derived.Test.YtbkolhhgajkjjaaGreatDoorRows
import Derived.ProofKit
import Derived.OpenShut
import Derived.ShutString
import Derived.ChangeOld
import Derived.Below
import Derived.SizedLaws
import Derived.Test.YtbkolhhgajkjjaaGreatDoorSs03
namespace Go.Proofs.YtbkolhhgajkjjaaGreatDoor
set_option maxRecDepth 20000
open Go.RowKit

def azL (k : Int) (K : List Int) (v : Value) (d x y : Int) : List Value := .int .i64 k :: (K.map (Value.int .u8) ++ [v, .int .i64 d, .int .i64 x, .int .i64 y])
theorem azL_length (k : Int) (K : List Int) (v : Value) (d x y : Int) (h : K.length = 32) : (azL k K v d x y).length = 37 := by simp [azL, h]

theorem act_cells {w : World} {b : Nat} {t : TypeId} {k : Int} {K : List Int} {v : Value} {d x y : Int} (h : Blk w b t (azL k K v d x y).toArray) (hK : K.length = 32) : w.cell? ⟨b, 0, none⟩ = some (.int .i64 k) ∧ w.cell? ⟨b, 33, none⟩ = some v ∧ w.cell? ⟨b, 34, none⟩ = some (.int .i64 d) ∧ w.cell? ⟨b, 35, none⟩ = some (.int .i64 x) ∧ w.cell? ⟨b, 36, none⟩ = some (.int .i64 y) := by
  have h1 : (K.map (Value.int .u8)).length = 32 := by simp [hK]
  refine ⟨?_, ?_, ?_, ?_, ?_⟩
  · rw [h.cell]; rfl
  · rw [h.cell, List.getElem?_toArray]
    show (K.map (Value.int .u8) ++ _)[32]? = _
    rw [List.getElem?_append_right (by omega), h1]; rfl
  · rw [h.cell, List.getElem?_toArray]
    show (K.map (Value.int .u8) ++ _)[33]? = _
    rw [List.getElem?_append_right (by omega), h1]; rfl
  · rw [h.cell, List.getElem?_toArray]
    show (K.map (Value.int .u8) ++ _)[34]? = _
    rw [List.getElem?_append_right (by omega), h1]; rfl
  · rw [h.cell, List.getElem?_toArray]
    show (K.map (Value.int .u8) ++ _)[35]? = _
    rw [List.getElem?_append_right (by omega), h1]; rfl
theorem act_key {w : World} {b : Nat} {t : TypeId} {k : Int} {K : List Int} {v : Value} {d x y : Int} (h : Blk w b t (azL k K v d x y).toArray) : w.rangeAt b 1 (K.map (Value.int .u8)) := fun j u hu => by
  rw [h.cell, List.getElem?_toArray, Nat.add_comm]
  show (K.map (Value.int .u8) ++ _)[j]? = _
  rw [List.getElem?_append_left (List.getElem?_eq_some_iff.1 hu).1]
  exact hu

theorem size_act : (Tryz.prog.info? 34).map (·.size) = some 37 := by kernel_rfl

end Go.Proofs.YtbkolhhgajkjjaaGreatDoor

namespace Go.Proofs.YtbkolhhgajkjjaaGreatDoor
set_option maxRecDepth 20000
open Go.ChangeShapes Go.WideShapes Go.ChangeAt Go.RowKit

theorem ownK : ownKnob Tryz.prog.godebug = none := by kernel_rfl
theorem laidOut : laidOutB Tryz.prog = true := by kernel_rfl

end Go.Proofs.YtbkolhhgajkjjaaGreatDoor

namespace Go.Proofs.YtbkolhhgajkjjaaGreatDoor
set_option maxRecDepth 20000
open Go.ChangeShapes Go.WideShapes Go.ChangeAt Go.RowKit

theorem cells_byte : Tryz.prog.cellsOf 5 = 1 := by kernel_rfl
theorem bytesOf_byte : Tryz.prog.bytesOf 5 = 1 := by kernel_rfl

end Go.Proofs.YtbkolhhgajkjjaaGreatDoor
