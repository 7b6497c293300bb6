/- Cells written over in new memory; a struct stored in the midst of a block; a literal in a region that draws its order. -/
import Derived.Test.YtlclabbnpjobgaaGreatDoorAp23
import Derived.Test.YtlclabbnpjobgaaGreatDoorAp22
namespace Go.Proofs.YtlclabbnpjobgaaGreatDoor
set_option maxRecDepth 20000
open Go.RowKit
def dcA (zs:Lq):Lq:=(zs.drop 1).take 32
def dcB (zs:Lq):Lq:=zs.drop 33
def dcN (zs:Lq):Lq:=if zs.length=65∧zs.getD 0 0=1 then nd 1 (dcA zs) (dcB zs) z32 z32 else if zs.length=65∧zs.getD 0 0=2 then nd 2 z32 z32 (dcA zs) (dcB zs) else nd 0 z32 z32 z32 z32
def dcE (zs:Lq):Int:=if zs.length=65∧zs.getD 0 0=1 then 0 else if zs.length=65∧zs.getD 0 0=2 then 0 else if zs.length=1∧zs.getD 0 0=0 then 0 else 10
def DecPost (zs:Lq) (w:World) (e:Ending) (w':World):Prop:=e=.returned (.tuple #[.agg (B (dcN zs)),.int .i64 (dcE zs)])∧Kb w w'
def isB (zs:Lq) (k n:Int):Bool:=decide ((zs.length:Int)=n∧zs.getD 0 0=k)
end Go.Proofs.YtlclabbnpjobgaaGreatDoor
