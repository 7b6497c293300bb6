/- walk.fork and walk.Handles, as contracts. -/
import Derived.Test.YtabiglnmfdpcfaaGreatDoorBz01
import Derived.Test.YtabiglnmfdpcfaaGreatDoorBz18
import Derived.Test.YtabiglnmfdpcfaaGreatDoorBz23
namespace Go.Proofs.YtabiglnmfdpcfaaGreatDoor
variable {S fr l:List Nat}
variable {c g gs k m n room:Nat}
variable {cs:Lz}
variable {mk:Bool}
variable {v:Value}
variable {w w' w0:World}
set_option maxHeartbeats 400000
set_option maxRecDepth 20000
open Go.RowKit

theorem pth_ln (D:Lq) (h:D.length=32):(Tryz.prog.info? 34).map (·.size)=some (B D).toList.length:=by rw [B_toList,List.length_map,h];exact size_path

def HdPost (hs:List Nat) (fin:Int) (w:World) (e:Ending) (w':World):Prop:=
  ∃a c,e=.returned (.tuple #[.slice a hs.length c,.int .i64 fin,.int .i64 0])∧w'.ownsRow w.heap.size 3 1 (.slice a hs.length c) hs.length (nats hs)∧Kb w w'

def sLen:Value→Nat
  | .slice _ n _=>n
  | _=>0

end Go.Proofs.YtabiglnmfdpcfaaGreatDoor

namespace Go.Proofs.YtabiglnmfdpcfaaGreatDoor
variable {S fr l:List Nat}
variable {c g gs k m n room:Nat}
variable {cs:Lz}
variable {mk:Bool}
variable {v:Value}
variable {w w' w0:World}
set_option maxHeartbeats 400000
set_option maxRecDepth 20000
open Go.RowKit

structure HsAt1 (cs:Lz) (K:Lq) (hs:List Nat) (fin:Nat) (oth:List Nat) (d k x:Nat):Prop where
  at_:hs[k]?=some x
  pos:1≤x
  occ:0<cc cs (x-1)
  kind:(ce cs (x-1)).kind=2
  dp:(ce cs (x-1)).dp=d+k
  lt:d+k<256
  oth_:oth[k]?=some (if kb K (d+k)=1 then (ce cs (x-1)).l else (ce cs (x-1)).r)
  next:(hs++[fin])[k+1]?=some (if kb K (d+k)=1 then (ce cs (x-1)).r else (ce cs (x-1)).l)

def fnd (l:List Ent) (K:Lq):Lq×Bool:=match l with
  | [e]=>if e.1=K then (e.2,true) else ([],false)
  | _=>([],false)
def FdPost (r:Lq×Bool) (w:World) (e:Ending) (w':World):Prop:=
  ∃v' sp,e=.returned (.tuple #[v',.bool r.2,.int .i64 0])∧Own w.heap.size w' v' r.1 sp∧Kb w w'

theorem mea_step (h:(k:Int)<(m:Int)):m-(k+1)<m-k:=by omega

end Go.Proofs.YtabiglnmfdpcfaaGreatDoor

namespace Go.Proofs.YtabiglnmfdpcfaaGreatDoor
variable {S fr l:List Nat}
variable {c g gs k m n room:Nat}
variable {cs:Lz}
variable {mk:Bool}
variable {v:Value}
variable {w w' w0:World}
set_option maxHeartbeats 400000
set_option maxRecDepth 20000
open Go.RowKit

theorem fits9_no {ct:Int→Nat} {ca:Int→Ce} (V:Vw w v false ct ca) (j:Int):Kc 59 #[v,.int .i64 j] w fun e w'=>e=.returned (.bool false)∧Kb w w':=by
  have HR:=hidden (root_any V 0);rw [show vRt false (ct 0) (ca 0) 0=1 from rfl] at HR;clear V;go_enter Tryz.func59,Tryz.ntmps59
  go_wp2_with (go_at_call 19;refine HR.out.mono ?_;rintro e w1 ⟨rfl,b1⟩;have HB:=hidden b1;clear b1)
  go_ret;exact ⟨rfl,HB.out⟩

theorem Hs.sizes (h:Hs w0 S w g gs room cs fr):noc cs≤room∧room≤65536∧cs.length≤room:=by
  have h1:=h.inv.sum;have h2:=h.inv.len;have h3:=h.inv.r2;rw [List.length_map] at h1 h2;unfold noc;omega

def fitsN (n room:Nat) (j:Int):Bool:=decide (0≤j∧j≤64∧(n:Int)+258 * j≤room)

theorem fits9_any (h:Hs w0 S w g gs room cs fr) (j:Int):Kc 59 #[.pointer (some ⟨g,0,none⟩),.int .i64 j] w fun e w'=>e=.returned (.bool (fitsN (noc cs) room j))∧Kb w w':=by
  have HR:=hidden (root_any h.vw 0);rw [show vRt true (cot cs 0) (cat cs 0) 0=0 from rfl] at HR;have HO:Hid (Kr w 10 #[.pointer (some ⟨g,0,none⟩)] (.int .i64 (noc cs:Int))):=fun w' hb=>hs_occ (h.grow hb)
  have HM:Hid (Kr w 106 #[.pointer (some ⟨g,0,none⟩)] (.int .i64 (room:Int))):=fun w' hb=>hs_room (h.grow hb)
  obtain ⟨h1,h2,_⟩:=h.sizes;generalize noc cs=n at HO h1 ⊢;clear h
  by_cases j0:j<0
  · rw [show fitsN n room j=false by simp [fitsN];omega]
    clear h1 h2;go_enter Tryz.func59,Tryz.ntmps59
    go_wp2_with (go_at_call 19;refine HR.out.mono ?_;rintro e w1 ⟨rfl,b1⟩;have HB:=hidden b1;clear b1)
    go_ret;exact ⟨rfl,HB.out⟩
  by_cases j1:64<j
  · rw [show fitsN n room j=false by simp [fitsN];omega]
    clear h1 h2;go_enter Tryz.func59,Tryz.ntmps59
    go_wp2_with (go_at_call 19;refine HR.out.mono ?_;rintro e w1 ⟨rfl,b1⟩;have HB:=hidden b1;clear b1)
    go_ret;exact ⟨rfl,HB.out⟩
  obtain ⟨k,rfl⟩:∃k:Nat,j=(k:Int):=⟨j.toNat,by omega⟩;have hk:k≤64:=by omega
  have HV:Hid (fitsN n room (k:Int)=decide (((n:Int)+258 * (k:Int))≤(room:Int))):=by
    show _=_;unfold fitsN;congr 1
    apply propext;constructor
    · exact fun q=>q.2.2
    · exact fun q=>⟨by omega,by omega,q⟩
  have w1:wrap64 (258 * (k:Int))=258 * (k:Int):=Go.IntWalk.wrap64_in _ (by omega);have w2:wrap64 ((n:Int)+258 * (k:Int))=(n:Int)+258 * (k:Int):=Go.IntWalk.wrap64_in _ (by omega);have j2: ¬(64:Int)<(k:Int):=j1;have j3: ¬(k:Int)<0:=j0;rw [HV.out];clear HV j0 j1 h1 h2;go_enter Tryz.func59,Tryz.ntmps59
  go_wp2_with (first
    |(go_at_call 19;refine HR.out.mono ?_;rintro e w1 ⟨rfl,b1⟩;have HB:=hidden b1;clear b1)
    |(go_at_call 10;refine (HO.out _ HB.out).mono ?_;rintro e w2 ⟨rfl,b2⟩;replace HB:=hidden (grow_trans HB.out b2);clear b2)
    |(go_at_call 106;refine (HM.out _ HB.out).mono ?_;rintro e w3 ⟨rfl,b3⟩;replace HB:=hidden (grow_trans HB.out b3);clear b3))
  go_ret;exact ⟨rfl,HB.out⟩

def vAh (mk:Bool) (q:Nat) (c:Ce) (h:Int):Int:=if vRt mk q c h=0 then (if h≠0∧q-c.ab=0 then 7 else 0) else vRt mk q c h

theorem athand_any {ct:Int→Nat} {ca:Int→Ce} (V:Vw w v mk ct ca) (h:Int):Kc 58 #[v,.int .i64 h] w fun e w'=>e=.returned (.int .i64 (vAh mk (ct h) (ca h) h))∧Kb w w':=by
  have HR:=hidden (root_any V h);have HH:Hid (Kr w 22 #[v,.int .i64 h] (.int .i64 ((ct h-(ca h).ab:Nat):Int))):=fun w' hb=>held_any (V.grow hb) h
  unfold vAh;generalize vRt mk (ct h) (ca h) h=r at HR ⊢;generalize ct h-(ca h).ab=q at HH ⊢;clear V
  by_cases r0:r=0
  · subst r0
    rw [if_pos rfl]
    by_cases h0:h=0
    · subst h0
      rw [if_neg (by simp)];go_enter Tryz.func58,Tryz.ntmps58
      go_wp2_with (go_at_call 19;refine HR.out.mono ?_;rintro e w1 ⟨rfl,b1⟩;have HB:=hidden b1;clear b1)
      go_ret;exact ⟨rfl,HB.out⟩
    · by_cases q0:q=0
      · subst q0
        rw [if_pos ⟨h0,rfl⟩];go_enter Tryz.func58,Tryz.ntmps58
        go_wp2_with (first
          |(go_at_call 19;refine HR.out.mono ?_;rintro e w1 ⟨rfl,b1⟩;have HB:=hidden b1;clear b1)
          |(go_at_call 22;refine (HH.out _ HB.out).mono ?_;rintro e w2 ⟨rfl,b2⟩;replace HB:=hidden (grow_trans HB.out b2);clear b2))
        go_ret;exact ⟨rfl,HB.out⟩
      · rw [if_neg (fun e=>q0 e.2)]
        have q1: ¬(q:Int)=0:=by omega
        have q2:((q:Int) == 0)=false:=by simpa using q1
        have q3:(h != 0)=true:=by simpa using h0
        go_enter Tryz.func58,Tryz.ntmps58
        go_wp2_with (first
          |(go_at_call 19;refine HR.out.mono ?_;rintro e w1 ⟨rfl,b1⟩;have HB:=hidden b1;clear b1)
          |(go_at_call 22;refine (HH.out _ HB.out).mono ?_;rintro e w2 ⟨rfl,b2⟩;replace HB:=hidden (grow_trans HB.out b2);clear b2))
        go_ret;exact ⟨rfl,HB.out⟩
  · rw [if_neg r0]
    go_enter Tryz.func58,Tryz.ntmps58
    go_wp2_with (go_at_call 19;refine HR.out.mono ?_;rintro e w1 ⟨rfl,b1⟩;have HB:=hidden b1;clear b1)
    go_ret;exact ⟨rfl,HB.out⟩

def vRf (mk:Bool) (q:Nat) (c:Ce) (h:Int) (n:Nat):Int:=if mk then (if 1024<n then 4 else vAh mk q c h) else 1

end Go.Proofs.YtabiglnmfdpcfaaGreatDoor

namespace Go.Proofs.YtabiglnmfdpcfaaGreatDoor
variable {S fr l:List Nat}
variable {c g gs k m n room:Nat}
variable {cs:Lz}
variable {mk:Bool}
variable {v:Value}
variable {w w' w0:World}
set_option maxHeartbeats 400000
set_option maxRecDepth 20000
open Go.RowKit

def BesPost (ss:List Nat) (w:World) (e:Ending) (w':World):Prop:=
  ∃a c,e=.returned (.slice a ss.length c)∧w'.ownsRow w.heap.size 3 1 (.slice a ss.length c) ss.length (nats ss)∧Kb w w'

def Ints9 (w:World) (a:Option Addr) (l:List Nat):Prop:=∀k,k<l.length→∃g,a=some ⟨g,0,none⟩∧w.cell? ⟨g,k,none⟩=some (.int .i64 (l.getD k 0:Int))
theorem Ints9.grow {a:Option Addr} (h:Ints9 w a l) (hb:Kb w w'):Ints9 w' a l:=fun k hk=>by
  obtain ⟨g,h1,h2⟩:=h k hk;exact ⟨g,h1,below_cell hb h2⟩
theorem ints9_lst {a:Option Addr} (h:Lst w 3 1 (.slice a n c) n (nats l)) (hn:n=l.length):Ints9 w a l:=fun k hk=>by
  obtain ⟨g,c',e,_⟩:=lst_pos h (by omega);injection e with e1 e2 e3;subst e1;refine ⟨g,rfl,?_⟩;rw [lst_cell h k (by omega),nats_get l k hk]
theorem holdM_take (cs:Lz) (ss:List Nat) (k:Nat) (hk:k<ss.length):holdM cs (ss.take (k+1))=if ss.getD k 0=0 then holdM cs (ss.take k) else moreC (holdM cs (ss.take k)) (ss.getD k 0-1):=by
  rw [List.take_add_one,List.getElem?_eq_getElem hk];show holdM cs (ss.take k++[ss[k]])=_;rw [holdM_snoc];have e:ss.getD k 0=ss[k]:=by rw [List.getD_eq_getElem?_getD,List.getElem?_eq_getElem hk];rfl
  rw [e]

end Go.Proofs.YtabiglnmfdpcfaaGreatDoor
