/- node.Encode, node.Digest, as contracts. -/
import Derived.Test.YtabiglnmfdpcfaaGreatDoorBz01
import Derived.Test.YtabiglnmfdpcfaaGreatDoorBz35
import Derived.Test.YtabiglnmfdpcfaaGreatDoorBz13
import Derived.Test.YtabiglnmfdpcfaaGreatDoorBz22
import Derived.Test.YtabiglnmfdpcfaaGreatDoorBz06
import Derived.Laws.Cover3
import Derived.Test.YtabiglnmfdpcfaaGreatDoorBz12
import Derived.Test.YtabiglnmfdpcfaaGreatDoorBz16
namespace Go.Proofs.YtabiglnmfdpcfaaGreatDoor
variable {g n o:Nat}
variable {w w':World}
set_option maxRecDepth 20000
open Go.RowKit

structure NdF (N:Lq) (k:Int) (a b c d:Lq):Prop where
  kd:∀w g t,Blk w g t (B N)→w.cell? ⟨g,0,none⟩=some (.int .u8 k)
  sa:Seg N 1 a
  sb:Seg N 33 b
  sc:Seg N 65 c
  sd:Seg N 97 d
  la:(Tryz.prog.info? 34).map (·.size)=some a.length
  lb:(Tryz.prog.info? 39).map (·.size)=some b.length
  lc:(Tryz.prog.info? 39).map (·.size)=some c.length
  ld:(Tryz.prog.info? 39).map (·.size)=some d.length
  ln:(Tryz.prog.info? 187).map (·.size)=some (B N).size
  ll:(Tryz.prog.info? 187).map (·.size)=some (B N).toList.length

def txN (k:Int) (a b c d:Lq):Lq:=if okN k a b c d=true then (if k=1 then 1::(a++b) else if k=2 then 2::(c++d) else [0]) else []
def dgN (k:Int) (a b c d:Lq):Lq:=if okN k a b c d=true then dig (txN k a b c d) else z32

def EncPost (k:Int) (a b c d:Lq) (w:World) (e:Ending) (w':World):Prop:=
  ∃v sp,e=.returned (.tuple #[v,.int .i64 (okE k a b c d)])∧Own w.heap.size w' v (txN k a b c d) sp∧Kb w w'
def DigNPost (k:Int) (a b c d:Lq) (w:World) (e:Ending) (w':World):Prop:=
  e=.returned (.tuple #[.agg (B (dgN k a b c d)),.int .i64 (okE k a b c d)])∧Kb w w'

theorem built_hash:Tryz.prog.built 39 []=some (B z32):=by kernel_rfl

end Go.Proofs.YtabiglnmfdpcfaaGreatDoor

namespace Go.Proofs.YtabiglnmfdpcfaaGreatDoor
variable {g n o:Nat}
variable {w w':World}
set_option maxRecDepth 20000
open Go.RowKit

theorem there_grow (h:w.there g o n) (hb:Kb w w'):w'.there g o n:=fun j hj=>by
  obtain ⟨h1,h2⟩:=h j hj;obtain ⟨v,hv⟩:=Option.isSome_iff_exists.1 h1;have hl:g<w.heap.size:=block_lt_of_cell (a:=⟨g,o+j,none⟩) hv;exact ⟨by rw [(hb.cell (p:=⟨g,o+j,none⟩) hl)];exact h1,by rw [World.frozen?_of_block (hb.block g hl)];exact h2⟩

theorem setCells_below {w0:World} {g:Nat} (hg:w0.heap.size≤g):∀(vs:List Value) (o:Nat) (w:World),Kb w0 w→Kb w0 (w.setCells g o vs)
  | [],_,_,h=>h
  | v::r,o,_,h=>setCells_below hg r (o+1) _ (setCell_below o v h hg)

theorem step_stL {ops:Array Oper} {o:Oper} {a:Act} {K:Act→World→Prop} {Q:Exit→Act→World→Prop} {E:Prop} (w:World) (hgd:o.guard=none) (x y:Operand) (ty:TypeId) (ho:o.op=.store ty x y)
    (g f:Nat) (cs:Array Value) (hx:a.eval x=.pointer (some ⟨g,f,none⟩)) (hy:a.eval y=.agg cs) (h:w.there g f cs.size) (hi:(Tryz.prog.info? ty).map (·.size)=some cs.size) (h1:cs.all (·.oneCell')=true)
    (hk:K (a.put o.dst undef) (w.setCells g f cs.toList)):if Region.wanted o (yielded ops a.tmps)=true then Oper.wp Tryz.prog o a w K Q else E:=by
  have hw:Region.wanted o (yielded ops a.tmps)=true:=by simp [Region.wanted,hgd]
  rw [if_pos hw];exact wp_store_mid ty x y ho g f cs hx hy h hi h1 hk

end Go.Proofs.YtabiglnmfdpcfaaGreatDoor

namespace Go.Proofs.YtabiglnmfdpcfaaGreatDoor
variable {g n o:Nat}
variable {w w':World}
set_option maxRecDepth 20000
open Go.RowKit

def dcA (zs:Lq):Lq:=(zs.drop 1).take 32
def dcB (zs:Lq):Lq:=zs.drop 33
def dcN (zs:Lq):Lq:=if zs.length=65∧zs.getD 0 0=1 then nd 1 (dcA zs) (dcB zs) z32 z32 else if zs.length=65∧zs.getD 0 0=2 then nd 2 z32 z32 (dcA zs) (dcB zs) else nd 0 z32 z32 z32 z32
def dcE (zs:Lq):Int:=if zs.length=65∧zs.getD 0 0=1 then 0 else if zs.length=65∧zs.getD 0 0=2 then 0 else if zs.length=1∧zs.getD 0 0=0 then 0 else 10

def DecPost (zs:Lq) (w:World) (e:Ending) (w':World):Prop:=e=.returned (.tuple #[.agg (B (dcN zs)),.int .i64 (dcE zs)])∧Kb w w'

def isB (zs:Lq) (k n:Int):Bool:=decide ((zs.length:Int)=n∧zs.getD 0 0=k)

end Go.Proofs.YtabiglnmfdpcfaaGreatDoor

namespace Go.Proofs.YtabiglnmfdpcfaaGreatDoor
variable {g n o:Nat}
variable {w w':World}
set_option maxRecDepth 20000
open Go.RowKit

end Go.Proofs.YtabiglnmfdpcfaaGreatDoor
