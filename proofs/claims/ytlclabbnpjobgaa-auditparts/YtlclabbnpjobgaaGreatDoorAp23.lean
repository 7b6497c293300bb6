/- node.bare, Check, is, as contracts. -/
import Derived.Test.YtlclabbnpjobgaaGreatDoorAp14
namespace Go.Proofs.YtlclabbnpjobgaaGreatDoor
set_option maxRecDepth 20000
open Go.RowKit
def okN (k:Int) (a b c d:Lq):Bool:=decide ((k=0∧a=z32∧b=z32∧c=z32∧d=z32)∨(k=1∧c=z32∧d=z32)∨(k=2∧a=z32∧b=z32))
def BarePost (k:Int) (a b c d:Lq) (w:World) (e:Ending) (w':World):Prop:=
 ∃k' a' b' c' d',e=.returned (.agg (B (nd k' a' b' c' d')))∧Nd k' a' b' c' d'∧okN k a b c d=decide (nd k a b c d=nd k' a' b' c' d')∧Kb w w'
def okE (k:Int) (a b c d:Lq):Int:=if okN k a b c d=true then 0 else 2
def TxtPost (zs:Lq) (n:Nat) (w:World) (e:Ending) (w':World):Prop:=
 ∃g c sp,e=.returned (.slice (some ⟨g,0,none⟩) n c)∧w.heap.size≤g∧g<w'.heap.size∧Own w.heap.size w' (.slice (some ⟨g,0,none⟩) n c) zs sp∧Kb w w'
structure NdF (N:Lq) (k:Int) (a b c d:Lq):Prop where
 kd:∀w g t,Blk w g t (B N)→w.cell? ⟨g,0,none⟩=some (.int .u8 k)
 sa:Seg N 1 a
 sb:Seg N 33 b
 sc:Seg N 65 c
 sd:Seg N 97 d
 la:(Tryz.prog.info? 48).map (·.size)=some a.length
 lb:(Tryz.prog.info? 43).map (·.size)=some b.length
 lc:(Tryz.prog.info? 43).map (·.size)=some c.length
 ld:(Tryz.prog.info? 43).map (·.size)=some d.length
 ln:(Tryz.prog.info? 177).map (·.size)=some (B N).size
 ll:(Tryz.prog.info? 177).map (·.size)=some (B N).toList.length
def txN (k:Int) (a b c d:Lq):Lq:=if okN k a b c d=true then (if k=1 then 1::(a++b) else if k=2 then 2::(c++d) else [0]) else []
def dgN (k:Int) (a b c d:Lq):Lq:=if okN k a b c d=true then dig (txN k a b c d) else z32
def EncPost (k:Int) (a b c d:Lq) (w:World) (e:Ending) (w':World):Prop:=
 ∃v sp,e=.returned (.tuple #[v,.int .i64 (okE k a b c d)])∧Own w.heap.size w' v (txN k a b c d) sp∧Kb w w'
def DigNPost (k:Int) (a b c d:Lq) (w:World) (e:Ending) (w':World):Prop:=
 e=.returned (.tuple #[.agg (B (dgN k a b c d)),.int .i64 (okE k a b c d)])∧Kb w w'
end Go.Proofs.YtlclabbnpjobgaaGreatDoor
