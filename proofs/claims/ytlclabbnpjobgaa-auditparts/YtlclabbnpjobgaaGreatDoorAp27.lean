/- Worlds that have but grown: draws, and new blocks; path.Compare and path.Bit told so; the function that the leaves are sorted by. -/
import Derived.Sort.Grow
import Derived.Shelf.SlSortCmp.WholeK
import Derived.Shelf.SlSorted.Search
import Derived.Lib.SlicesSearch
import Derived.Test.YtlclabbnpjobgaaGreatDoorAp26
namespace Go.Proofs.YtlclabbnpjobgaaGreatDoor
set_option maxRecDepth 20000
open Go.RowKit
def Grew (w w':World):Prop:=∃(q:Nat) (os:Array Obj),w'=Go.Sort.grow (w.drewN q) os
open Go.Shelf
def sortNode_ren:Go.Shelf.Ren:=⟨fun | 6=>117 | 15=>65 | 14=>157 | 28=>112 | 29=>113 | 20=>181 | 21=>182 | 22=>183 | 23=>184 | 24=>185 | 25=>186 | 26=>187 | 27=>188 | 46=>203 | 47=>151 | 48=>152 | 49=>204 | 50=>205 | 57=>210 | n=>n,fun | 22=>129 | 24=>177 | 25=>179 | 3=>3 | 39=>124 | 0=>0 | 53=>169 | 55=>171 | 4=>4 | 46=>161 | 45=>160 | 50=>166 | 5=>5 | 9=>9 | 66=>206 | 70=>210 | 76=>230 | 77=>101 | n=>n,fun | n=>n⟩
def searchL_ren:Go.Shelf.Ren:=⟨fun | 16=>160 | n=>n,fun | 3=>3 | 35=>39 | 4=>4 | 38=>124 | n=>n,fun | n=>n⟩
def LvAt (w:World) (v:Value) (ls:List Lf):Prop:=
 ∃a cap,v=.slice a ls.length cap∧ls.length≤cap∧(0<ls.length→∃g off,a=some ⟨g,off,none⟩∧∀i,i<ls.length→w.rangeAt g (off+i * 129) (encLf ls[i]!))
open Go.RowKit Go.Shelf
open Go.Sort (HoldsK putRowK size_flatK get_flatK)
def Rows (w:World) (g m:Nat) (ls:List Lf):Prop:=(∀i,i<ls.length→w.rangeAt g (i * 129) (encLf ls[i]!))∧∀i,i<m→w.there g (i * 129) 129
end Go.Proofs.YtlclabbnpjobgaaGreatDoor
