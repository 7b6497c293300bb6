/- The document's List of entries, as a contract. -/
import Derived.Test.YtgfdgjkbcdmboaaGreatDoorAc23
namespace Go.Proofs.YtgfdgjkbcdmboaaGreatDoor
set_option maxRecDepth 20000
open Go.RowKit
theorem Zzd (x:Int) (k:Nat):x / 2 ^ k / 2=x / 2 ^ (k+1):=by
 rw [Int.pow_succ,Int.ediv_ediv_of_nonneg (Int.pow_nonneg (by omega))]
set_option maxHeartbeats 2000000 in
theorem Zfo (xs:List Int) (d:Nat) (w:World) (hx:Key xs) (hd:d<256):Calls Tryz.prog 106 #[.agg (B xs),.int .i64 d] w fun e w'=>e=.returned (.int .i64 (kb xs d))∧Below w.heap.size w w':=by
 have HX:=Za hx
 have h2:((d / 8:Nat):Int)<32:=by omega
 have hb:=hx.byte (d / 8)
 have t0:decide ((d:Int)<0)=false:=decide_eq_false (by omega)
 have t1:decide ((256:Int)≤(d:Int))=false:=decide_eq_false (by omega)
 obtain ⟨x,hxx⟩:∃x,x=xs.getD (d / 8) 0:=⟨_,rfl⟩
 have HK:Hid (kb xs d=x / 2 ^ (7-d % 8) % 2):=by rw [hxx];rfl
 rw [← hxx] at hb
 have hwx:wrap64 x=x:=Go.IntWalk.wrap64_in _ (by omega)
 have HXX:=Za hxx
 clear hx hxx
 go_enter Tryz.func106,Tryz.ntmps106
 go_wp2_with (refine Zc _ rfl _ _ rfl _ rfl ?_;intro w1 g1 hg1 hl1 B1 b1;have c1:=B1.bcell (d / 8) (by rw [HX.out.1];omega);rw [← HXX.out] at c1)
 clear c1 B1
 have hm:d % 8<8:=Nat.mod_lt _ (by omega)
 go_loopw [5,6] (fun s i wr=>∃(k:Nat) (v:Int),k≤7-d % 8∧s=.int .i64 v∧i=.int .i64 k∧Hid (v=x / 2 ^ k)∧0≤v∧v≤255∧wr=w1) (fun _ i _=>8-(intOf i).toNat)
 case atStart=>exact ⟨0,x,by omega,rfl,rfl,by show _=_;simp,hb.1,hb.2,rfl⟩
 case round=>
  obtain ⟨k,v,hk,rfl,rfl,hv,hv0,hv1,hwr⟩:=hrel
  subst hwr
  by_cases hlt:k<7-d % 8
  ·have hlt':(k:Int)<7-(d:Int) % 8:=by omega
   go_wp2
   exact ⟨⟨k+1,v / 2,by omega,by go_num,by go_num,by show _=_;rw [hv.out,Zzd],by omega,by omega,trivial⟩,by simp [intOf];omega⟩
  ·have hlt':decide ((k:Int)<7-(d:Int) % 8)=false:=decide_eq_false (by omega)
   obtain rfl:k=7-d % 8:=by omega
   go_wp2
   go_ret
   exact ⟨by rw [HK.out,← hv.out];rfl,b1⟩
set_option maxHeartbeats 1000000 in
theorem Yct (xs:List Int) (d:Int) (w:World) (hd: ¬(0≤d∧d<256)):Calls Tryz.prog 106 #[.agg (B xs),.int .i64 d] w fun e w'=>e=.returned (.int .i64 (-1))∧Below w.heap.size w w':=by
 by_cases h0:d<0
 ·have t0:decide (d<0)=true:=decide_eq_true h0
  clear hd h0
  go_enter Tryz.func106,Tryz.ntmps106
  go_wp2_with (refine Zc _ rfl _ _ rfl _ rfl ?_;intro w1 g1 hg1 hl1 B1 b1)
  go_ret
  exact ⟨rfl,b1⟩
 ·have t0:decide (d<0)=false:=decide_eq_false h0
  have t1:decide (256≤d)=true:=decide_eq_true (by omega)
  clear hd h0
  go_enter Tryz.func106,Tryz.ntmps106
  go_wp2_with (refine Zc _ rfl _ _ rfl _ rfl ?_;intro w1 g1 hg1 hl1 B1 b1)
  go_ret
  exact ⟨rfl,b1⟩
theorem Ycu (xs:List Int) (d:Int) (w:World) (hx:Key xs):Calls Tryz.prog 106 #[.agg (B xs),.int .i64 d] w fun e w'=>e=.returned (.int .i64 (kbi xs d))∧Below w.heap.size w w':=by
 unfold kbi
 by_cases h:0≤d∧d<256
 ·rw [if_pos h]
  have e:d=((d.toNat:Nat):Int):=by omega
  have:=Zfo xs d.toNat w hx (by omega)
  rw [← e] at this
  exact this
 ·rw [if_neg h]
  exact Yct xs d w h
def SidePost (es:List Ent) (d:Nat) (b:Int) (w:World) (e:Ending) (w':World):Prop:=∃v V,e=.returned v∧PrAt w' v V (sideOf es d b)∧Below w.heap.size w w'
theorem Yar {w0 w w':World} {base n:Nat} {v:Value} {xs:List Value} (hb:Below w0.heap.size w0 w) (ho:w.ownsRow base 152 33 v n xs) (hbase:w0.heap.size≤base) (hg:w.grownBy w' v.ownBlock):Below w0.heap.size w0 w':=
 hb.trans ⟨hg.os,hg.tape,hg.output,hg.size,fun k hk=>hg.block k (Nat.lt_of_lt_of_le hk hb.size) (fun e=>by have:=(ho.lt k e.symm).1;omega)⟩
def p7Places:Nat→Option (Nat×Nat):=fun i=>(#[(0,32),(32,1)]:Array (Nat×Nat))[i]?
theorem Zuv (ps:List (Nat×Value)):Tryz.prog.built 152 ps=Instr.fill p7Places (encP z32 (.slice none 0 0)).toArray ps:=by kernel_rfl
theorem Yfb (K:List Int) (a:Option Addr) (n c:Nat) (hk:K.length=32):Tryz.prog.built 152 [(0,.agg (B K)),(1,.slice a n c)]=some (encP K (.slice a n c)).toArray:=by
 rw [Zuv]
 rw [Zbl p7Places 0 0 32 (.agg (B K)) (K.map (Value.int .u8)) (encP z32 (.slice none 0 0)) _ rfl (Zhd K) (by simp [hk]) (by simp [encP,Zdm])]
 have e1:(encP z32 (.slice none 0 0)).take 0++(K.map (Value.int .u8)++(encP z32 (.slice none 0 0)).drop (0+32))=K.map (Value.int .u8)++[.slice none 0 0]:=by simp [encP,z32]
 first
  | rw [e1]
  | skip
 rw [Zbl p7Places 1 32 1 (.slice a n c) [.slice a n c] _ _ rfl rfl rfl (by simp [hk,encP,Zdm])]
 simp [encP,Instr.fill,hk,z32]
def tw (ps:List (Nat×Tre)):Nat:=(ps.map fun p=>1+2 * p.2.num).sum
def dq (cs:List (Nat×Ce)) (h:Nat):Nat:=if (sdC cs h).kind=2 then (sdC cs h).dp else 256
def Bl (w:World) (st:List Nat) (its:List (Ent×Value)) (vt vo:Value) (wr:World):Prop:=
 Lst wr 3 1 vt st.length (nats st)∧(∀k,vt.ownBlock=some k→w.heap.size≤k)∧wr.ownsRow w.heap.size 152 33 vo its.length (flatP its)∧(∀p∈its,Key p.1.1∧∃sp,Own w.heap.size wr p.2 p.1.2 sp)∧Below w.heap.size w wr
theorem Bl.grow {w wr w':World} {st:List Nat} {its:List (Ent×Value)} {vt vo:Value} (h:Bl w st its vt vo wr) (hb:Below wr.heap.size wr w'):Bl w st its vt vo w':=by
 obtain ⟨h1,h2,h3,h4,h5⟩:=h
 refine ⟨Zfb h1 hb,h2,Zpp h3 hb,fun p hp=>?_,Zb h5 hb⟩
 obtain ⟨k,sp,ho⟩:=h4 p hp
 exact ⟨k,sp,ho.grow hb⟩
theorem Ymv:(3:Nat)≠152:=by decide
theorem Ymu:(152:Nat)≠5:=by decide
theorem Zyj {w:World} {base:Nat} {e:TypeId} {k:Nat} {v:Value} {n:Nat} {xs:List Value} (h:w.ownsRow base e k v n xs):Lst w e k v n xs:=⟨h.1,h.2.imp id (fun ⟨g,cap,cur,a1,_,a3⟩=>⟨g,cap,cur,a1,Nat.zero_le _,a3⟩)⟩
theorem Bl.add {w wr w':World} {st:List Nat} {its:List (Ent×Value)} {vt vo vo':Value} {E:Ent} {u:Value} {sp:List Int} (h:Bl w st its vt vo wr) (hE:Key E.1) (hu:Own w.heap.size wr u E.2 sp) (hl:w'.ownsRow w.heap.size 152 33 vo' (its.length+1) (flatP its++encP E.1 u)) (hg:wr.grownBy w' vo.ownBlock):Bl w st (its++[(E,u)]) vt vo' w':=by
 obtain ⟨h1,h2,h3,h4,h5⟩:=h
 have m:Mod vo.ownBlock.toList wr w':=Mod.of_grown hg (fun k hk=>by simp [hk])
 have hS:∀k∈vo.ownBlock.toList,vo.ownBlock=some k:=fun k hk=>by simpa using hk
 have hO:∀(u:Value) (zs sp:List Int),Own w.heap.size wr u zs sp→Own w.heap.size w' u zs sp:=fun u zs sp ho=>ho.mod m (fun q hq e=>by
  obtain ⟨cs,hb⟩:=ho.blk q hq
  exact Zn (Zyj h3) hb Ymu (hS q e))
 refine ⟨Zbc h1 m (fun g hg e=>?_),h2,?_,fun p hp=>?_,Yar h5 h3 (Nat.le_refl _) hg⟩
 ·exact Zhk h1 (Zyj h3) Ymv g hg (hS g e)
 ·rw [Zuj,List.length_append,List.length_singleton]
  exact hl
 ·rcases List.mem_append.1 hp with hp | hp
  ·obtain ⟨k,sp,ho⟩:=h4 p hp
   exact ⟨k,sp,hO _ _ _ ho⟩
  ·obtain rfl:p=(E,u):=by simpa using hp
   exact ⟨hE,sp,hO _ _ _ hu⟩
theorem Bl.done {w wr:World} {st:List Nat} {its:List (Ent×Value)} {vt vo:Value} (h:Bl w st its vt vo wr):∃V,PrAt wr vo V (its.map (·.1)):=by
 obtain ⟨h1,h2,h3,h4,h5⟩:=h
 exact ⟨_,Zlu h3 (fun p hp=>(h4 p hp).1) (fun p hp=>by obtain ⟨_,sp,ho⟩:=h4 p hp;exact ho.reads)⟩
def BelowPost (es:List Ent) (w:World) (e:Ending) (w':World):Prop:=∃a c V,e=.returned (.slice a es.length c)∧PrAt w' (.slice a es.length c) V es∧Below w.heap.size w w'
end Go.Proofs.YtgfdgjkbcdmboaaGreatDoor
