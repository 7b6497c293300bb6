/- StoreNone's walk: what is no store answers as no store, whatever is asked. -/
import Derived.Test.YtgfdgjkbcdmboaaGreatDoorDs34
import Derived.Test.YtgfdgjkbcdmboaaGreatDoorRows
import Derived.ProofKit
import Derived.OpenShut
import Derived.ShutString
import Derived.ChangeOld
import Derived.Below
import Derived.SizedLaws
import Derived.ChangeSame
import Derived.Deep.Slices
namespace Go.Proofs.YtgfdgjkbcdmboaaGreatDoor
variable {W:World}
variable {fuel:Nat}
variable {v:Value}
set_option maxRecDepth 20000
open Go.RowKit
def azL (k:Int) (K:Lq) (v:Value) (d x y:Int):List Value:=.int .i64 k::(K.map (Value.int .u8)++[v,.int .i64 d,.int .i64 x,.int .i64 y])
open Go.ChangeShapes Go.WideShapes Go.ChangeAt Go.RowKit
theorem Yll:ownKnob Tryz.prog.godebug=none:=by kernel_rfl
theorem Zhj:laidOutB Tryz.prog=true:=by kernel_rfl
theorem Zhn:Tryz.prog.cellsOf 5=1:=by kernel_rfl
theorem Zom:Tryz.prog.bytesOf 5=1:=by kernel_rfl
theorem Ztc {H:Type} {enc:TypeId×Value→H} {d:DataW H} {p:List MemPlace} (hf:DataW.trod enc Tryz.prog W 0 (fun _=>true) true fuel 72 [v]=some (d,p))
  {ts:List TypeId} {ds:List (DataW H)} (hsz:(DataW.weightsEach Tryz.prog ts ds).all (· ≤reachBytes)=true) (j:Nat) (ht:ts[j]?=some 72) (hd:ds[j]?=some d):
  ∃zs,Reads W v zs∧zs.length≤140737488355328-4096:=by
 rcases open_ints Zdw Zhs Zhn hf with ⟨hcs,hx⟩ | ⟨x,l,c,zs,hcs,_,hl,hm,hz,hx,hcell,hwz⟩
 ·simp only [List.cons.injEq,and_true] at hcs;subst hcs;exact ⟨[],Reads.nil _,by simp⟩
 ·simp only [List.cons.injEq,and_true] at hcs;subst hcs;simp at hz;simp only [Prod.mk.injEq] at hx;have hlen:(zs.take l).length=l:=by simp;omega
  have hs:=sized_slice hsz ht (by rw [hd,hx.1]) Zdw;rw [Zom] at hs;simp only [lits,List.length_map,List.length_take,List.length_drop,reachBytes] at hs;refine ⟨zs.take l,⟨some x,c,by rw [hlen],by omega,fun h=>by simp at h,?_,?_⟩,by omega⟩
  ·intro z hz';have:=bounds_u8 (hwz z (List.mem_of_mem_take hz'));omega
  ·intro hp;rw [hlen] at hp;obtain ⟨b,off,spot⟩:=x;have hspot:spot=none:=by
    have:=World.cell?_spot (hcell 0 (by omega));simpa [Addr.add] using this
   subst hspot;refine ⟨b,off,rfl,fun i hi=>?_⟩;rw [hlen] at hi;have:=hcell i (by omega);rw [Addr.add_lit] at this;rw [this];simp [List.getD,hi]
end Go.Proofs.YtgfdgjkbcdmboaaGreatDoor
