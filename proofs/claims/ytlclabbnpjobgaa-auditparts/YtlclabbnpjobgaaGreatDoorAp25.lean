/- The document's Bit, Set, Common, Compare (rootcellarref04), as contracts. -/
import Derived.Test.YtlclabbnpjobgaaGreatDoorAp24
namespace Go.Proofs.YtlclabbnpjobgaaGreatDoor
set_option maxHeartbeats 2000000
set_option maxRecDepth 20000
open Go.RowKit
theorem Zwi (x:Int) (k:Nat):x / 2 ^ k / 2=x / 2 ^ (k+1):=by
 rw [Int.pow_succ,Int.ediv_ediv_of_nonneg (Int.pow_nonneg (by omega))]
theorem Zfd (xs:Lq) (d:Nat) (w:World) (hx:Key xs) (hd:d<256):Kc 169 #[.agg (B xs),.int .i64 d] w fun e w'=>e=.returned (.int .i64 (kb xs d))∧Kb w w':=by
 have HX:=Za hx;have h2:((d / 8:Nat):Int)<32:=by omega
 have hb:=hx.byte (d / 8);have t0:decide ((d:Int)<0)=false:=decide_eq_false (by omega);have t1:decide ((256:Int)≤(d:Int))=false:=decide_eq_false (by omega);obtain ⟨x,hxx⟩:∃x,x=xs.getD (d / 8) 0:=⟨_,rfl⟩;have HK:Hid (kb xs d=x / 2 ^ (7-d % 8) % 2):=by rw [hxx];rfl
 rw [← hxx] at hb;have hwx:wrap64 x=x:=Go.IntWalk.wrap64_in _ (by omega);have HXX:=Za hxx;clear hx hxx;go_enter Tryz.func169,Tryz.ntmps169
 go_wp2_with (refine Zd _ rfl _ _ rfl _ rfl ?_;intro w1 g1 hg1 hl1 B1 b1;have c1:=B1.bcell (d / 8) (by rw [HX.out.1];omega);rw [← HXX.out] at c1)
 clear c1 B1;have hm:d % 8<8:=Nat.mod_lt _ (by omega)
 go_loopw [5,6] (fun s i wr=>∃(k:Nat) (v:Int),k≤7-d % 8∧s=.int .i64 v∧i=.int .i64 k∧Hid (v=x / 2 ^ k)∧0≤v∧v≤255∧wr=w1) (fun _ i _=>8-(intOf i).toNat)
 case atStart=>exact ⟨0,x,by omega,rfl,rfl,by show _=_;simp,hb.1,hb.2,rfl⟩
 case round=>
  obtain ⟨k,v,hk,rfl,rfl,hv,hv0,hv1,hwr⟩:=hrel;subst hwr
  by_cases hlt:k<7-d % 8
  ·have hlt':(k:Int)<7-(d:Int) % 8:=by omega
   go_wp2
   exact ⟨⟨k+1,v / 2,by omega,by go_num,by go_num,by show _=_;rw [hv.out,Zwi],by omega,by omega,trivial⟩,by simp [intOf];omega⟩
  ·have hlt':decide ((k:Int)<7-(d:Int) % 8)=false:=decide_eq_false (by omega);obtain rfl:k=7-d % 8:=by omega
   go_wp2
   go_ret;exact ⟨by rw [HK.out,← hv.out];rfl,b1⟩
theorem Zzm (xs:Lq) (d:Int) (w:World) (hd: ¬(0≤d∧d<256)):Kc 169 #[.agg (B xs),.int .i64 d] w fun e w'=>e=.returned (.int .i64 (-1))∧Kb w w':=by
 by_cases h0:d<0
 ·have t0:decide (d<0)=true:=decide_eq_true h0;clear hd h0;go_enter Tryz.func169,Tryz.ntmps169
  go_wp2_with (refine Zd _ rfl _ _ rfl _ rfl ?_;intro w1 g1 hg1 hl1 B1 b1)
  go_ret;exact ⟨rfl,b1⟩
 ·have t0:decide (d<0)=false:=decide_eq_false h0;have t1:decide (256≤d)=true:=decide_eq_true (by omega);clear hd h0;go_enter Tryz.func169,Tryz.ntmps169
  go_wp2_with (refine Zd _ rfl _ _ rfl _ rfl ?_;intro w1 g1 hg1 hl1 B1 b1)
  go_ret;exact ⟨rfl,b1⟩
theorem Zzn (xs:Lq) (d:Int) (w:World) (hx:Key xs):Kc 169 #[.agg (B xs),.int .i64 d] w fun e w'=>e=.returned (.int .i64 (kbi xs d))∧Kb w w':=by
 unfold kbi
 by_cases h:0≤d∧d<256
 ·rw [if_pos h];have e:d=((d.toNat:Nat):Int):=by omega
  have:=Zfd xs d.toNat w hx (by omega);rw [← e] at this;exact this
 ·rw [if_neg h];exact Zzm xs d w h
def SidePost (es:List Ent) (d:Nat) (b:Int) (w:World) (e:Ending) (w':World):Prop:=∃v V,e=.returned v∧PrAt w' v V (sideOf es d b)∧Kb w w'
def p7Places:Nat→Option (Nat×Nat):=fun i=>(#[(0,32),(32,1)]:Array (Nat×Nat))[i]?
def tw (ps:List (Nat×Tre)):Nat:=(ps.map fun p=>1+2 * p.2.num).sum
def dq (cs:Lz) (h:Nat):Nat:=if (sdC cs h).kind=2 then (sdC cs h).dp else 256
def Bl (w:World) (st:List Nat) (its:List (Ent×Value)) (vt vo:Value) (wr:World):Prop:=
 Lst wr 3 1 vt st.length (nats st)∧(∀k,vt.ownBlock=some k→w.heap.size≤k)∧wr.ownsRow w.heap.size 58 33 vo its.length (flatP its)∧(∀p∈its,Key p.1.1∧∃sp,Own w.heap.size wr p.2 p.1.2 sp)∧Kb w wr
def BelowPost (es:List Ent) (w:World) (e:Ending) (w':World):Prop:=∃a c V,e=.returned (.slice a es.length c)∧PrAt w' (.slice a es.length c) V es∧Kb w w'
def lvA (ca:Int→Ce) (l:List Nat):List Nat:=l.filter fun (h:Nat)=>decide ((ca (h:Int)).kind=1)
def enA (ca:Int→Ce) (l:List Nat):List Ent:=l.map fun (h:Nat)=>((ca (h:Int)).key,(ca (h:Int)).bs)
end Go.Proofs.YtlclabbnpjobgaaGreatDoor
