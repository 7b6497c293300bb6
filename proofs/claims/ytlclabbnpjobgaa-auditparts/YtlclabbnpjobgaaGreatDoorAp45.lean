/- What a statement's arguments are in memory: of an argument that is a slice of bytes: it reads as bytes, and is no longer than memory. -/
import Derived.Test.YtlclabbnpjobgaaGreatDoorAp44
import Derived.ChangeSame
import Derived.Deep.Slices
namespace Go.Proofs.YtlclabbnpjobgaaGreatDoor
variable {W:World}
variable {fuel:Nat}
variable {v:Value}
set_option maxRecDepth 20000
open Go.ChangeShapes Go.WideShapes Go.ChangeAt Go.RowKit
theorem Zjl:Tryz.prog.cellsOf 5=1:=by kernel_rfl
theorem Zmn:Tryz.prog.bytesOf 5=1:=by kernel_rfl
theorem Zqu {H:Type} {enc:TypeId×Value→H} {d:DataW H} {p:List MemPlace} (hf:DataW.trod enc Tryz.prog W 0 (fun _=>true) true fuel 52 [v]=some (d,p))
  {ts:List TypeId} {ds:List (DataW H)} (hsz:(DataW.weightsEach Tryz.prog ts ds).all (· ≤reachBytes)=true) (j:Nat) (ht:ts[j]?=some 52) (hd:ds[j]?=some d):
  ∃zs,Reads W v zs∧zs.length≤140737488355328-4096:=by
 rcases open_ints Zdc Ziy Zjl hf with ⟨hcs,hx⟩ | ⟨x,l,c,zs,hcs,_,hl,hm,hz,hx,hcell,hwz⟩
 ·simp only [List.cons.injEq,and_true] at hcs;subst hcs;exact ⟨[],Reads.nil _,by simp⟩
 ·simp only [List.cons.injEq,and_true] at hcs;subst hcs;simp at hz;simp only [Prod.mk.injEq] at hx;have hlen:(zs.take l).length=l:=by simp;omega
  have hs:=sized_slice hsz ht (by rw [hd,hx.1]) Zdc;rw [Zmn] at hs;simp only [lits,List.length_map,List.length_take,List.length_drop,reachBytes] at hs;refine ⟨zs.take l,⟨some x,c,by rw [hlen],by omega,fun h=>by simp at h,?_,?_⟩,by omega⟩
  ·intro z hz';have:=bounds_u8 (hwz z (List.mem_of_mem_take hz'));omega
  ·intro hp;rw [hlen] at hp;obtain ⟨b,off,spot⟩:=x;have hspot:spot=none:=by
    have:=World.cell?_spot (hcell 0 (by omega));simpa [Addr.add] using this
   subst hspot;refine ⟨b,off,rfl,fun i hi=>?_⟩;rw [hlen] at hi;have:=hcell i (by omega);rw [Addr.add_lit] at this;rw [this];simp [List.getD,hi]
theorem Zjj:Tryz.prog.cellsOf 48=32:=by kernel_rfl
end Go.Proofs.YtlclabbnpjobgaaGreatDoor
