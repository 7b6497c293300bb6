/- How many nodes a tree has: by its entries; and that a store of which callers hold one root alone has just that root's nodes. No program in this text. -/
import Derived.Carry
import Derived.Test.YtlclabbnpjobgaaGreatDoorAp24
namespace Go.Proofs.YtlclabbnpjobgaaGreatDoor
set_option maxRecDepth 20000
open Go.RowKit
def nN:Nat→Nat→List Ent→Nat
 | 0,_,l=>l.length
 | n+1,d,l=>if l.length≤1 then l.length else 1+(nN n (d+1) (sideOf l d 0)+nN n (d+1) (sideOf l d 1))
def Tre.hds:Nat→Tre→List Nat
 | _,.emp=>[]
 | h,.lf _ _=>[h]
 | h,.nd _ hl hr l r=>h::(l.hds hl++r.hds hr)
def KeysAt (w:World) (b:Nat) (ks:List (Lq)):Prop:=
 ∃es clock,w.heap[b]?=some (.map es clock)∧es.toList.map (fun e=>(e.key,e.val))=ks.map (fun k=>(Value.agg (B k),Value.agg #[]))
end Go.Proofs.YtlclabbnpjobgaaGreatDoor
