/- What follows of wants and counts, with no word of the program. -/
import Derived.Test.YtlclabbnpjobgaaGreatDoorAp07
namespace Go.Proofs.YtlclabbnpjobgaaGreatDoor
variable {P R S fr:List Nat}
variable {T:Tre}
variable {c g n r room:Nat}
variable {cs:Lz}
variable {vf vf' vp vp':Value}
variable {w w':World}
set_option maxHeartbeats 1000000
set_option maxRecDepth 20000
open Go.RowKit
theorem Zgy (ps:List Pl):(slotsOf ps).Nodup:=by
 unfold slotsOf slotsK;unfold List.Nodup;rw [List.pairwise_map];exact (List.nodup_range.filter _).imp (fun h e=>h (by omega))
theorem Zct (cs:Lz) (x:Nat):x∈slotsOf (cs.map pl)↔x≠0∧0<cc cs (x-1):=by
 rw [Zho];constructor
 ·rintro ⟨i,rfl,h⟩;rw [Zae] at h;exact ⟨by omega,h⟩
 ·rintro ⟨h0,h⟩;refine ⟨x-1,by omega,?_⟩;rw [Zae];exact h
theorem Ztt (cs:Lz) (h i:Nat):(sdH cs h).count (i+1)=(if (ce cs (h-1)).l=i+1 then 1 else 0)+(if (ce cs (h-1)).r=i+1 then 1 else 0):=by
 unfold sdH;rw [List.count_cons,List.count_cons,List.count_nil];simp only [beq_iff_eq];omega
theorem Ziz (cs:Lz) (i:Nat):∀k,k≤cs.length→((slotsK (cs.map pl) k).map fun h=>(sdH cs h).count (i+1)).sum=((cs.take k).map (con i)).sum
 | 0,_=>by simp [slotsK]
 | k+1,hk=>by
  have ih:=Ziz cs i k (by omega);have e:(cs.take (k+1)).map (con i)=(cs.take k).map (con i)++[con i (cc cs k,ce cs k)]:=by
   rw [List.take_succ_eq_append_getElem (by omega),List.map_append];have:cs[k]=(cc cs k,ce cs k):=by simp [cc,ce,show k<cs.length by omega]
   rw [this];rfl
  rw [e,List.sum_append]
  by_cases hc:0<cnt (cs.map pl) k
  ·rw [Zeq _ k hc,List.map_append,List.sum_append,ih];rw [Zae] at hc;simp only [List.map_cons,List.map_nil,List.sum_cons,List.sum_nil,Nat.add_zero,Ztt,Nat.add_sub_cancel,con,if_pos hc]
  ·rw [Zfk _ k hc,ih];rw [Zae] at hc;simp [con,hc]
theorem Zyp (cs:Lz) (i:Nat):((slotsOf (cs.map pl)).map fun h=>(sdH cs h).count (i+1)).sum=ns cs i:=by
 have:=Ziz cs i cs.length (Nat.le_refl _);rw [List.take_length] at this;unfold ns slotsOf;rw [List.length_map];exact this
theorem Zun (W:Wf cs []) (h:RdA cs R P) (ho:∀i,0<own cs [] i→i+1∈R) (i:Nat) (hi:0<cc cs i):i+1∈rch P:=by
 have up:∀i,0<cc cs i→i+1 ∉ rch P→∃j,0<cc cs j∧j+1 ∉ rch P∧(ce cs j).kind=2∧((ce cs i).kind=2→(ce cs i).dp=(ce cs j).dp+1):=fun i hi hn=>by
  have h1:=W.own i;have h0:own cs [] i=0:=by
   apply Nat.eq_zero_of_not_pos;intro q;exact hn ((h.mem _).2 (.top (ho i q) (by omega)))
  rw [List.count_nil,h0] at h1;have h2:=W.ab i;obtain ⟨j,hj,hs⟩:=Yef cs i (by omega);have hnj:j+1 ∉ rch P:=fun q=>hn ((h.mem _).2 (.side ((h.mem _).1 q) (by
   rw [sdH,Nat.add_sub_cancel];rcases hs with e | e
   ·simp [e]
   ·simp [e]) (by omega)))
  rcases W.tr j hj with hl | hl
  ·have:=hl.l;have:=hl.r;omega
  ·refine ⟨j,hj,hnj,hl.kind,fun hk=>?_⟩;rcases hs with e | e
   ·rcases hl.sl with q | ⟨_,_,_,q⟩
    ·omega
    ·rw [e,Nat.add_sub_cancel] at q;omega
   ·rcases hl.sr with q | ⟨_,_,_,q⟩
    ·omega
    ·rw [e,Nat.add_sub_cancel] at q;omega
 have no2:∀d i,0<cc cs i→i+1 ∉ rch P→(ce cs i).kind=2→(ce cs i).dp=d→False:=by
  intro d;induction d using Nat.strongRecOn with
  | _ d ih=>
   intro i hi hn hk hd;obtain ⟨j,hj,hjn,hjk,hjd⟩:=up i hi hn;have:=hjd hk;exact ih (ce cs j).dp (by omega) j hj hjn hjk rfl
 apply Classical.byContradiction;intro hn;obtain ⟨j,hj,hjn,hjk,_⟩:=up i hi hn;exact no2 _ j hj hjn hjk rfl
theorem Zxz (W:Wf cs []) (h:RdA cs R P) (lv:∀h∈R,h≠0→0<cc cs (h-1)) (all:∀i,0<cc cs i→i+1∈rch P) (i:Nat):wnt P ((i+1:Nat):Int)=R.count (i+1)+ns cs i:=by
 rw [Zjq P _ (by omega),h.count,← Zyp cs i];congr 1
 have pm:(rch P).Perm (slotsOf (cs.map pl)):=(List.perm_ext_iff_of_nodup (Zdh P) (Zgy _)).2 (fun x=>by
  rw [Zct];constructor
  ·intro q;exact ((h.mem x).1 q).live W lv
  ·rintro ⟨x0,hx⟩;have:=all (x-1) hx;rwa [show x-1+1=x by omega] at this)
 exact (pm.map _).sum_nat
theorem Zzl (h:RdA cs [] P):P=[]:=by
 have no:∀x,¬Rch cs [] x:=fun x q=>by
  induction q with
  | top hm _=>cases hm
  | side _ _ _ ih=>exact ih
 have e:rch P=[]:=by
  apply List.eq_nil_iff_forall_not_mem.2;intro x hx;exact no x ((h.mem x).1 hx)
 have:=h.eq;rw [e] at this;simpa using this
theorem Zqt (W:Wf cs []) (hT:IsT cs r T) (hd:(sdC cs r).kind=2→(sdC cs r).dp=0) {y z:Ent} (hp:T.ents.Perm [y,z]) (hy:kb y.1 0=1) (hz:kb z.1 0=0) (hl:cs.length≤3) (ho:∀i,own cs [] i=if r=i+1 then 1 else 0):1≤r∧0<cc cs (r-1)∧ns cs (r-1)=0∧(∀i,0<cc cs i→cc cs i=1)∧noc cs=3:=by
 have hlen:=hp.length_eq
 match T,hT,hp,hlen with
 | .emp,_,_,hlen=>simp [Tre.ents] at hlen
 | .lf k b,_,_,hlen=>simp [Tre.ents] at hlen
 | .nd d a b L R,hT,hp,hlen=>
  have n:=Zit W hT;obtain ⟨h1,h2,h3,h4,h5,h6,h7,h8⟩:=hT;have hs:sdC cs r=ce cs (r-1):=by rw [sdC,if_neg (by omega)]
  rw [hs] at hd;obtain rfl:d=0:=by have:=hd h3;omega
  have okL:=Zbb W L a h7;have okR:=Zbb W R b h8;rw [show (Tre.nd 0 a b L R).ents=L.ents++R.ents from rfl] at hp hlen;have mz:z∈L.ents:=by
   rcases List.mem_append.1 (hp.mem_iff.2 (show z∈[y,z] by simp)) with q | q
   ·exact q
   ·have:=n.bR z q;omega
  have my:y∈R.ents:=by
   rcases List.mem_append.1 (hp.mem_iff.2 (show y∈[y,z] by simp)) with q | q
   ·have:=n.bL y q;omega
   ·exact q
  have lL:=List.length_pos_of_mem mz;have lR:=List.length_pos_of_mem my;rw [List.length_append] at hlen;simp only [List.length_cons,List.length_nil] at hlen;have one:∀(U:Tre) (q:Nat),IsT cs q U→U.ents.length=1→1≤q∧0<cc cs (q-1)∧(ce cs (q-1)).kind=1:=fun U q hU hU1=>by
   match U,hU,hU1 with
   | .emp,_,hU1=>simp [Tre.ents] at hU1
   | .lf _ _,hU,_=>exact ⟨hU.1,hU.2.1,hU.2.2.1⟩
   | .nd d' a' b' L' R',hU,hU1=>
    have:=(Zit W hU).two;rw [show (Tre.nd d' a' b' L' R').ents=L'.ents++R'.ents from rfl] at hU1;omega
  obtain ⟨a1,a2,a3⟩:=one L a h7 (by omega);obtain ⟨b1,b2,b3⟩:=one R b h8 (by omega);have hne:a≠b:=by
   rintro rfl;have e:=IsT.one h7 h8;subst e;have q1:=n.bL z mz;have q2:=n.bR z mz;omega
  have ra:r≠a:=by rintro rfl;omega
  have rb:r≠b:=by rintro rfl;omega
  have l1:=Zaw h2;have l2:=Zaw a2;have l3:=Zaw b2;have any:∀j,0<cc cs j→j+1=r∨j+1=a∨j+1=b:=fun j hj=>by
   have:=Zaw hj;omega
  have lf:∀j,0<cc cs j→j≠r-1→(ce cs j).l=0∧(ce cs j).r=0:=fun j hj hjr=>by
   have hk:(ce cs j).kind=1:=by
    rcases any j hj with q | q | q
    ·omega
    ·rw [show j=a-1 by omega];exact a3
    ·rw [show j=b-1 by omega];exact b3
   rcases W.tr j hj with q | q
   ·exact ⟨q.l,q.r⟩
   ·have:=q.kind;omega
  have hns:∀i,ns cs i=(if a=i+1 then 1 else 0)+(if b=i+1 then 1 else 0):=fun i=>by
   have q:=Zhw cs i (r-1) (0,zc) l1;have q0:ns (cs.set (r-1) (0,zc)) i=0:=by
    apply Nat.eq_zero_of_not_pos;intro q;obtain ⟨j,j1,j2⟩:=Yef _ i q;rw [Zem cs _ _ _ l1] at j1;rw [Zcm cs _ _ _ l1] at j2
    by_cases e:j=r-1
    ·rw [if_pos e] at j1;omega
    ·rw [if_neg e] at j1 j2;have:=lf j j1 e;omega
   rw [q0,show con i (0,zc)=0 from rfl,con,if_pos h2,h5,h6] at q;omega
  refine ⟨h1,h2,?_,fun i hi=>?_,?_⟩
  ·rw [hns,if_neg (by omega),if_neg (by omega)]
  ·have c1:=W.own i;have c2:=W.ab i;have c3:=hns i;rw [List.count_nil,ho i] at c1;rcases any i hi with q | q | q
   ·rw [if_pos q.symm] at c1;rw [if_neg (by omega),if_neg (by omega)] at c3;omega
   ·rw [if_neg (by omega)] at c1;rw [if_pos q.symm,if_neg (by omega)] at c3;omega
   ·rw [if_neg (by omega)] at c1;rw [if_neg (by omega),if_pos q.symm] at c3;omega
  ·have pm:(slotsOf (cs.map pl)).Perm [r,a,b]:=(List.perm_ext_iff_of_nodup (Zgy _) (by simp [ra,rb,hne])).2 (fun x=>by
    rw [Zct];simp only [List.mem_cons,List.not_mem_nil,or_false];constructor
    ·rintro ⟨x0,hx⟩;have:=any (x-1) hx;omega
    ·rintro (rfl | rfl | rfl)
     ·exact ⟨by omega,h2⟩
     ·exact ⟨by omega,a2⟩
     ·exact ⟨by omega,b2⟩)
   have:=pm.length_eq;rw [Zbf] at this;exact this
def Th (z:List Value):Prop:=z.length=71∧∀u∈z,u.oneCell'=true
def zcl:List Value:=List.replicate 32 (.int .u8 0)++(.int .u8 0:: .int .i64 0:: .int .i64 0::(List.replicate 32 (.int .u8 0)++[.slice none 0 0,.int .i64 0,.int .i64 0,.int .i64 0]))
theorem Zoo:Th zcl:=⟨rfl,fun u hu=>List.all_eq_true.1 (show zcl.all (·.oneCell')=true from rfl) u hu⟩
structure SmC (w:World) (g:Nat) (vp vf:Value) (room:Nat) (ps:List Pl) (fr:List Nat):Prop where
 blk:Blk w g 127 #[.pointer (some ⟨g,0,none⟩),.int .i64 (room:Int),vp,vf]
 pls:Lst w 173 (71+1) vp ps.length (flatS ps)
 frs:Lst w 3 1 vf fr.length (nats fr)
 wid:Wid 71 ps
structure SlC (w:World) (g:Nat) (vp vf:Value) (room:Nat) (ps:List Pl) (fr:List Nat):Prop extends SmC w g vp vf room ps fr where
 inv:Inv room ps fr
theorem SmC.mod {ps:List Pl} (h:SmC w g vp vf room ps fr) (m:Mod S w w') (hn:∀k∈slB g vp vf,k ∉ S):SmC w' g vp vf room ps fr:=
 ⟨h.blk.mod m (hn g (by simp [slB])),Zbd h.pls m (fun k hk=>hn k (by simp [slB,hk])),Zbd h.frs m (fun k hk=>hn k (by simp [slB,hk])),h.wid⟩
theorem SlC.mod {ps:List Pl} (h:SlC w g vp vf room ps fr) (m:Mod S w w') (hn:∀k∈slB g vp vf,k ∉ S):SlC w' g vp vf room ps fr:=⟨h.toSmC.mod m hn,h.inv⟩
theorem Yal:∃i z,Tryz.prog.info? 173=some i∧i.zero=some z∧i.size=71+1∧i.bytes=144∧z.cells.size=71+1:=⟨_,_,rfl,rfl,rfl,rfl,rfl⟩
theorem Zou:(Tryz.prog.info? 173).map (·.size)=some (71+1):=by kernel_rfl
theorem Yii (room:Int) (w:World) (h: ¬(1≤room∧room≤65536)):Kc 73 #[.int .i64 room] w fun e w'=>e=.returned (.tuple #[.pointer none,.int .i64 2])∧w'=w:=by
 by_cases h1:room<1
 ·go_enter Tryz.func73,Tryz.ntmps73
  go_wp2
  go_ret2;exact ⟨rfl,rfl⟩
 ·have h2:65536<room:=by omega
  clear h;go_enter Tryz.func73,Tryz.ntmps73
  go_wp2
  go_ret2;exact ⟨rfl,rfl⟩
theorem Yeg (room:Nat) (w:World) (h1:1≤room) (h2:room≤65536):Kc 73 #[.int .i64 (room:Int)] w fun e w'=>∃g,e=.returned (.tuple #[.pointer (some ⟨g,0,none⟩),.int .i64 0])∧w.heap.size≤g∧SlC w' g (.slice none 0 0) (.slice none 0 0) room [] []∧Kb w w':=by
 have i1: ¬(room:Int)<1:=by omega
 have i2: ¬65536<(room:Int):=by omega
 go_enter Tryz.func73,Tryz.ntmps73
 go_wp2
 go_ret2;exact ⟨w.heap.size,rfl,Nat.le_refl _,⟨⟨Blk.new _ _ _,World.ownsRow_nil _ _ _ _,World.ownsRow_nil _ _ _ _,Wid.nil _⟩,Inv.new h1 h2⟩,Zc _ _⟩
def NoC (w:World) (v:Value):Prop:=v=.pointer none∨∃g,v=.pointer (some ⟨g,0,none⟩)∧w.cell? ⟨g,0,none⟩=some (.pointer none)
theorem Zbx (g:Nat) (w:World) (hc:w.cell? ⟨g,0,none⟩=some (.pointer (some ⟨g,0,none⟩))):Kc 67 #[.pointer (some ⟨g,0,none⟩)] w fun e w'=>e=.returned (.bool true)∧w'=w:=by
 obtain ⟨j,hj⟩:∃j,Tryz.prog.info? 127=some j:=⟨_,rfl⟩;have hq:=fun a=>run_eql_ptr_same (P:=Tryz.prog) w a Tryz.underlying83 hj
 clear hj;go_enter Tryz.func67,Tryz.ntmps67
 go_wp2
 go_ret;exact ⟨rfl,rfl⟩
theorem SmC.c0 {ps:List Pl} (h:SmC w g vp vf room ps fr):w.cell? ⟨g,0,none⟩=some (.pointer (some ⟨g,0,none⟩)):=by rw [h.blk.cell];rfl
theorem SmC.c1 {ps:List Pl} (h:SmC w g vp vf room ps fr):w.cell? ⟨g,1,none⟩=some (.int .i64 (room:Int)):=by rw [h.blk.cell];rfl
theorem SmC.c2 {ps:List Pl} (h:SmC w g vp vf room ps fr):w.cell? ⟨g,2,none⟩=some vp:=by rw [h.blk.cell];rfl
theorem SmC.c3 {ps:List Pl} (h:SmC w g vp vf room ps fr):w.cell? ⟨g,3,none⟩=some vf:=by rw [h.blk.cell];rfl
theorem SmC.count {gp:Nat} {ps:List Pl} (h:SmC w g (.slice (some ⟨gp,0,none⟩) n c) vf room ps fr) (i:Nat) (hi:i<ps.length):w.cell? ⟨gp,i * (71+1),none⟩=some (.int .i64 (cnt ps i:Int)):=by
 have hp:=h.pls;obtain rfl:n=ps.length:=by
  obtain ⟨_,_,e⟩:=Zj hp;injection e
 rw [Zay hp _ (by have:=Nat.mul_le_mul_right (71+1) (show i+1≤ps.length from hi);rw [Nat.add_mul] at this;omega)];exact Zfe h.wid i hi
theorem Zoj (g:Nat) (vp vf:Value) (room:Nat) (ps:List Pl) (fr:List Nat) (slot:Int) (w:World) (h:SlC w g vp vf room ps fr) (hv:Vac ps slot):Kc 114 #[.pointer (some ⟨g,0,none⟩),.int .i64 slot] w fun e w'=>e=.returned (.tuple #[.int .i64 0,.int .i64 7])∧w'=w:=by
 have c0:=h.c0;have c2:=h.c2;have HS:=Za h;obtain ⟨a,c,rfl⟩:=Zj h.pls
 by_cases h1:slot<1
 ·clear h hv;go_enter Tryz.func114,Tryz.ntmps114
  go_wp2_with (go_at_call 67;refine (Zbx g _ c0).mono ?_;rintro e w' ⟨rfl,rfl⟩)
  go_ret2;exact ⟨rfl,rfl⟩
 ·by_cases h2:(ps.length:Int)<slot
  ·clear h hv;go_enter Tryz.func114,Tryz.ntmps114
   go_wp2_with (go_at_call 67;refine (Zbx g _ c0).mono ?_;rintro e w' ⟨rfl,rfl⟩)
   go_ret2;exact ⟨rfl,rfl⟩
  ·obtain ⟨i,hi⟩:∃i:Nat,slot-1=(i:Int):=⟨(slot-1).toNat,by omega⟩;have hil:i<ps.length:=by omega
   have hc:=hv i (by omega);obtain ⟨gp,c',e,_⟩:=Zat h.pls (by omega);injection e with e1 _ e3;subst e1;subst e3;have c4:=h.count i hil;rw [hc] at c4;have hw:wrap64 (i:Int)=i:=Go.IntWalk.wrap64_in _ (by have:=h.inv.len;have:=h.inv.r2;omega);have j0:(0:Int)≤(i:Int):=by omega
   have j1:(i:Int)<(ps.length:Int):=by omega
   clear h hv hc;go_enter Tryz.func114,Tryz.ntmps114
   go_wp2_with (go_at_call 67;refine (Zbx g _ c0).mono ?_;rintro e w' ⟨rfl,rfl⟩)
   go_ret2;exact ⟨rfl,rfl⟩
theorem SlC.at {ps:List Pl} (h:SlC w g vp vf room ps fr) (i:Nat) (hi:0<cnt ps i):∃gp c,vp=.slice (some ⟨gp,0,none⟩) ps.length c∧w.cell? ⟨gp,i * (71+1),none⟩=some (.int .i64 (cnt ps i:Int))∧i<ps.length∧(0:Int)≤(i:Int)∧(i:Int)<(ps.length:Int)∧wrap64 (i:Int)=i∧ps.length≤65536:=by
 have hl:=Zqa hi;obtain ⟨gp,c,rfl,_⟩:=Zat h.pls (by omega);have h1:=h.inv.len;have h2:=h.inv.r2;exact ⟨gp,c,rfl,h.count i hl,hl,by omega,by omega,Go.IntWalk.wrap64_in _ (by omega),by omega⟩
theorem Zir (g:Nat) (vp vf:Value) (room:Nat) (ps:List Pl) (fr:List Nat) (slot:Int) (i:Nat) (w:World) (h:SlC w g vp vf room ps fr) (hs:slot=(i:Int)+1) (hi:0<cnt ps i):Kc 114 #[.pointer (some ⟨g,0,none⟩),.int .i64 slot] w fun e w'=>e=.returned (.tuple #[.int .i64 (i:Int),.int .i64 0])∧w'=w:=by
 have c0:=h.c0;have c2:=h.c2;obtain ⟨gp,c,rfl,c4,hil,j0,j1,hw,hm⟩:=h.at i hi;have hne:((cnt ps i:Int) == 0)=false:=by simp;omega
 generalize cnt ps i=q at c4 hne;have h1: ¬slot<1:=by omega
 have h2: ¬(ps.length:Int)<slot:=by omega
 have h3:slot-1=(i:Int):=by omega
 clear h hs hi;go_enter Tryz.func114,Tryz.ntmps114
 go_wp2_with (go_at_call 67;refine (Zbx g _ c0).mono ?_;rintro e w' ⟨rfl,rfl⟩)
 go_ret2;exact ⟨rfl,rfl⟩
theorem Zry (g:Nat) (vp vf:Value) (room:Nat) (ps:List Pl) (fr:List Nat) (slot:Int) (w:World) (h:SlC w g vp vf room ps fr) (hv:Vac ps slot):Kc 68 #[.pointer (some ⟨g,0,none⟩),.int .i64 slot] w fun e w'=>e=.returned (.int .i64 0)∧w'=w:=by
 have HS:=Za h;have HV:=Za hv;clear h hv;go_enter Tryz.func68,Tryz.ntmps68
 go_wp2_with (go_at_call 114;refine (Zoj g vp vf room ps fr slot _ HS.out HV.out).mono ?_;rintro e w' ⟨rfl,rfl⟩)
 go_ret;exact ⟨rfl,rfl⟩
theorem Zwu (g:Nat) (vp vf:Value) (room:Nat) (ps:List Pl) (fr:List Nat) (slot:Int) (i:Nat) (w:World) (h:SlC w g vp vf room ps fr) (hs:slot=(i:Int)+1) (hi:0<cnt ps i):Kc 68 #[.pointer (some ⟨g,0,none⟩),.int .i64 slot] w fun e w'=>e=.returned (.int .i64 (cnt ps i:Int))∧w'=w:=by
 have HS:=Za h;have HI:=Za hi;have HE:=Za hs;have c2:=h.c2;obtain ⟨gp,c,rfl,c4,hil,j0,j1,hw,hm⟩:=h.at i hi;obtain ⟨q,hq⟩:∃q,q=cnt ps i:=⟨_,rfl⟩;rw [← hq] at c4 ⊢;have HQ:=Za hq;clear h hs hi hq;go_enter Tryz.func68,Tryz.ntmps68
 go_wp2_with (go_at_call 114;refine (Zir g _ vf room ps fr slot i _ HS.out HE.out HI.out).mono ?_;rintro e w' ⟨rfl,rfl⟩)
 go_ret;exact ⟨rfl,rfl⟩
theorem Zze (g:Nat) (vp vf:Value) (room:Nat) (ps:List Pl) (fr:List Nat) (w:World) (h:SlC w g vp vf room ps fr):Kc 147 #[.pointer (some ⟨g,0,none⟩)] w fun e w'=>e=.returned (.int .i64 (room:Int))∧w'=w:=by
 have c0:=h.c0;have c1:=h.c1;clear h;go_enter Tryz.func147,Tryz.ntmps147
 go_wp2_with (go_at_call 67;refine (Zbx g _ c0).mono ?_;rintro e w' ⟨rfl,rfl⟩)
 go_ret;exact ⟨rfl,rfl⟩
theorem Zvn (g:Nat) (vp vf:Value) (room:Nat) (ps:List Pl) (fr:List Nat) (w:World) (h:SlC w g vp vf room ps fr):Kc 31 #[.pointer (some ⟨g,0,none⟩)] w fun e w'=>e=.returned (.int .i64 (occs ps:Int))∧Kb w w':=by
 have c0:=h.c0;have c2:=h.c2;have c3:=h.c3;obtain ⟨a,c,rfl⟩:=Zj h.pls;obtain ⟨a',c',rfl⟩:=Zj h.frs;have h1:=h.inv.len;have h2:=h.inv.r2;have h3:=h.inv.sum;have HW:Hid (wrap64 ((ps.length:Int)-(fr.length:Int))=(occs ps:Int)):=by
  show _=_;rw [Go.IntWalk.wrap64_in _ (by omega)];omega
 clear h h1 h2 h3;go_enter Tryz.func31,Tryz.ntmps31
 go_wp2_with (go_at_call 67;refine (Zbx g _ c0).mono ?_;rintro e w' ⟨rfl,rfl⟩)
 go_quiet (fail)
 go_wp2
 go_ret;exact ⟨by rw [← HW.out];rfl,below_drewN (Below.refl _ _) _⟩
def TurnC (w:World) (g:Nat) (S:List Nat) (room:Nat) (ps:List Pl) (fr:List Nat) (w':World):Prop:=∃vp vf,SlC w' g vp vf room ps fr∧Mod S w w'∧New S w (slB g vp vf)
theorem Zjw:(173:Nat)≠127:=by decide
theorem Zyi:(3:Nat)≠127:=by decide
theorem Ycy:(173:Nat)≠3:=by decide
theorem Yjr {p:Value} {ps:List Pl} (hb:Blk w g 127 #[p,.int .i64 (room:Int),vp,vf]) (he:p=.pointer (some ⟨g,0,none⟩)) (hp:Lst w 173 (71+1) vp' ps.length (flatS ps)) (hf:Lst w 3 1 vf fr.length (nats fr)) (hw:Wid 71 ps):SmC (w.setCell ⟨g,2,none⟩ vp') g vp' vf room ps fr:=by
 have m:Mod [g] w (w.setCell ⟨g,2,none⟩ vp'):=Mod.setCell w g 2 vp' (by simp);refine ⟨?_,Zbd hp m (fun k hk e=>?_),Zbd hf m (fun k hk e=>?_),hw⟩
 ·subst he;exact hb.set 2 vp'
 ·obtain rfl:k=g:=by simpa using e
  exact Zm hp hb Zjw hk
 ·obtain rfl:k=g:=by simpa using e
  exact Zm hf hb Zyi hk
theorem Yjj {p:Value} {ps:List Pl} (hb:Blk w g 127 #[p,.int .i64 (room:Int),vp,vf]) (he:p=.pointer (some ⟨g,0,none⟩)) (hp:Lst w 173 (71+1) vp ps.length (flatS ps)) (hf:Lst w 3 1 vf' fr.length (nats fr)) (hw:Wid 71 ps):SmC (w.setCell ⟨g,3,none⟩ vf') g vp vf' room ps fr:=by
 have m:Mod [g] w (w.setCell ⟨g,3,none⟩ vf'):=Mod.setCell w g 3 vf' (by simp);refine ⟨?_,Zbd hp m (fun k hk e=>?_),Zbd hf m (fun k hk e=>?_),hw⟩
 ·subst he;exact hb.set 3 vf'
 ·obtain rfl:k=g:=by simpa using e
  exact Zm hp hb Zjw hk
 ·obtain rfl:k=g:=by simpa using e
  exact Zm hf hb Zyi hk
theorem SmC.over {gp:Nat} {ps ps':List Pl} (h:SmC w g (.slice (some ⟨gp,0,none⟩) n c) vf room ps fr) (m:Mod [gp] w w') (hp:Lst w' 173 (71+1) (.slice (some ⟨gp,0,none⟩) n c) ps'.length (flatS ps')) (hw:Wid 71 ps'):SmC w' g (.slice (some ⟨gp,0,none⟩) n c) vf room ps' fr:=by
 refine ⟨h.blk.mod m ?_,hp,Zbd h.frs m (fun k hk e=>?_),hw⟩
 ·intro e;obtain rfl:g=gp:=by simpa using e
  exact Zm h.pls h.blk Zjw rfl
 ·obtain rfl:k=gp:=by simpa using e
  exact Zic h.pls h.frs Ycy k rfl hk
theorem SmC.free {gf:Nat} {ps:List Pl} (h:SmC w g vp (.slice (some ⟨gf,0,none⟩) n c) room ps fr) (i:Nat) (hi:i<fr.length):w.cell? ⟨gf,i,none⟩=some (.int .i64 (fr.getD i 0:Nat)):=by
 have hp:=h.frs;obtain rfl:n=fr.length:=by
  obtain ⟨_,_,e⟩:=Zj hp;injection e
 rw [Zay hp _ (by omega)];exact Zhd fr i hi
theorem Zsp (g:Nat) (vp vf:Value) (room:Nat) (ps:List Pl) (fr:List Nat) (s:Nat) (w:World) (h:SmC w g vp vf room ps (fr++[s])) (hl:fr.length≤65536):Kc 190 #[.pointer (some ⟨g,0,none⟩)] w fun e w'=>∃vf',e=.returned (.tuple #[.int .i64 (s:Int),.bool true])∧SmC w' g vp vf' room ps fr∧Mod [g] w w'∧vf'.ownBlock=vf.ownBlock:=by
 have c3:=h.c3;have f3:=h.blk.frozen 3;have HS:=Za h;obtain ⟨gf,c,rfl,hcap⟩:=Zat h.frs (by simp);have c4:=h.free fr.length (by simp);rw [show (fr++[s]).getD fr.length 0=s by simp [List.getD]] at c4;rw [List.length_append,List.length_singleton] at c3 hcap;have j0:(0:Int)≤(fr.length:Int):=by omega
 have j1:(fr.length:Int)<((fr.length+1:Nat):Int):=by omega
 have j2:(fr.length:Int)≤(c:Int):=by omega
 clear h;go_enter Tryz.func190,Tryz.ntmps190
 go_wp2
 go_ret2;have h:=HS.out;have hc:=Znu (m:=fr.length) h.frs (by simp);rw [Nat.mul_one,Zhy,List.take_left] at hc;exact ⟨_,rfl,Yjj h.blk rfl h.pls hc h.wid,Mod.setCell _ _ _ _ (by simp),rfl⟩
theorem Zso (g:Nat) (vp vf:Value) (room:Nat) (ps:List Pl) (w:World) (h:SmC w g vp vf room ps []) (hl:ps.length=room):Kc 190 #[.pointer (some ⟨g,0,none⟩)] w fun e w'=>e=.returned (.tuple #[.int .i64 0,.bool false])∧Kb w w':=by
 have c1:=h.c1;have c2:=h.c2;have c3:=h.c3;obtain ⟨a,c,rfl⟩:=Zj h.frs;obtain ⟨a',c',rfl⟩:=Zj h.pls;subst hl;clear h;go_enter Tryz.func190,Tryz.ntmps190
 go_wp2
 go_quiet (fail)
 go_wp2
 go_ret2;exact ⟨rfl,below_drewN (Below.refl _ _) _⟩
theorem Zxv:∀u∈(Value.int .i64 0::zcl),u.oneCell'=true:=fun u hu=>List.all_eq_true.1 (show (Value.int .i64 0::zcl).all (·.oneCell')=true from rfl) u hu
theorem Zsh (z:List Value) (hz:Th z) (c:Int):∀u∈(Value.int .i64 c::z),u.oneCell'=true:=fun u hu=>by
 rcases List.mem_cons.1 hu with rfl | hu
 ·rfl
 ·exact hz.2 u hu
theorem Zfz (z:List Value) (hz:Th z):(z:List Value).length=71:=hz.1
theorem Zya (g:Nat) (vp vf:Value) (room:Nat) (ps:List Pl) (w:World) (h:SmC w g vp vf room ps []) (hl:ps.length<room) (hr:room≤65536):Kc 190 #[.pointer (some ⟨g,0,none⟩)] w fun e w'=>∃vp',e=.returned (.tuple #[.int .i64 ((ps.length+1:Nat):Int),.bool true])∧SmC w' g vp' vf room (ps++[(0,zcl)]) []∧Mod (slB g vp vf) w w'∧WhereL w vp vp':=by
 have c1:=h.c1;have c2:=h.c2;have c3:=h.c3;have f2:=h.blk.frozen 2;have HS:=Za h;obtain ⟨a,c,rfl⟩:=Zj h.frs;obtain ⟨a',c',rfl⟩:=Zj h.pls;have hne:((ps.length:Int) == (room:Int))=false:=by simp;omega
 clear h;go_enter Tryz.func190,Tryz.ntmps190
 go_wp2
 go_quiet (fail)
 obtain ⟨w1,hw1⟩:∃x,x=w.drewN nq:=⟨_,rfl⟩;have HM:Hid (Mod [] w w1):=by rw [hw1];exact Mod.drewN _ _ _
 have HS1:Hid (SmC w1 g (.slice a' ps.length c') (.slice a 0 c) room ps []):=HS.out.mod HM.out (fun _ _ h=>by cases h);rw [← hw1];clear c1 c2 c3 f2 HS hw1;have c2:=HS1.out.c2;have f2:=HS1.out.blk.frozen 2;have HL:Hid (ps.length+1≤65536):=by show ps.length+1≤65536;omega
 clear hl hr
 go_wp2_with (at_builtin;refine Zbl _ rfl _ _ _ rfl 173 (71+1) 144 Tryz.underlying125 Yal (by omega) _ ps.length (flatS ps) rfl (Zfo HS1.out.pls (Zc _ _)) w1.heap.size (Value.int .i64 0::zcl) rfl (Blk.new _ _ _) rfl Zxv (by have:=HL.out;simp only [maxLen];omega) (by have:=HL.out;omega) ?_;intro v' w2 h2 g2 wh;obtain ⟨a2,c4,rfl⟩:=Zj h2;have hb2:=(HS1.out.blk.grow (Zc w1 (.cells (Value.int .i64 0::zcl).toArray 173))).of_block (g2.block g (by have:=HS1.out.blk.lt;simp;omega) (fun e=>Zm HS1.out.pls HS1.out.blk Zjw e.symm));have c5:w2.cell? ⟨g,2,none⟩=some (.slice a' ps.length c'):=(by rw [hb2.cell];rfl);have f5:=hb2.frozen 2)
 go_ret2;have hpl:Lst w2 173 (71+1) (.slice a2 (ps.length+1) c4) (ps++[(0,zcl)]).length (flatS (ps++[(0,zcl)])):=by
  rw [Zru,List.length_append,List.length_singleton];exact h2
 have hwd:Wid 71 (ps++[(0,zcl)]):=HS1.out.wid.snoc 0 _ rfl (fun u hu=>Zxv u (by simp only [List.mem_cons];exact .inr (by simpa using hu)));have hfr:Lst w2 3 1 (.slice a 0 c) 0 (nats []):=Zbd (Zfo HS1.out.frs (Zc _ _)) (Mod.of_grown g2 (S:=slB g (.slice a' ps.length c') (.slice none 0 0)) (fun k hk=>Zaa.2 (.inr (.inl hk)))) (fun k hk hn=>by
  rcases Zaa.1 hn with rfl | h | h
  ·exact Zm HS1.out.frs HS1.out.blk Zyi hk
  ·exact Zic HS1.out.pls HS1.out.frs Ycy k h hk
  ·cases h)
 refine ⟨_,rfl,Yjr hb2 rfl hpl hfr hwd,?_,?_⟩
 ·have m1:Mod (slB g (.slice a' ps.length c') (.slice a 0 c)) w w1:=HM.out.mono (fun _ h=>by cases h);have m2:Mod (slB g (.slice a' ps.length c') (.slice a 0 c)) w1 w2:=(Mod.alloc w1 _ _).trans' (Mod.of_grown g2 (fun k hk=>Zaa.2 (.inr (.inl hk))));exact (m1.trans' m2).trans' (Mod.setCell _ _ _ _ (Zaa.2 (.inl rfl)))
 ·rcases wh with e | ⟨k,e,hk⟩
  ·exact .inl e
  ·refine .inr ⟨k,e,?_⟩;have:=HM.out.size;simp at hk;omega
theorem Zwf (g:Nat) (vp vf:Value) (room:Nat) (ps:List Pl) (fr:List Nat) (slot:Int) (w:World) (h:SlC w g vp vf room ps fr) (hv:Vac ps slot):Kc 87 #[.pointer (some ⟨g,0,none⟩),.int .i64 slot] w fun e w'=>e=.returned (.int .i64 7)∧w'=w:=by
 have HS:=Za h;have HV:=Za hv;clear h hv;go_enter Tryz.func87,Tryz.ntmps87
 go_wp2_with (go_at_call 114;refine (Zoj g vp vf room ps fr slot _ HS.out HV.out).mono ?_;rintro e w' ⟨rfl,rfl⟩)
 go_ret;exact ⟨rfl,rfl⟩
theorem Zrr (g:Nat) (vp vf:Value) (room:Nat) (ps:List Pl) (fr:List Nat) (slot:Int) (i:Nat) (w:World) (h:SlC w g vp vf room ps fr) (hs:slot=(i:Int)+1) (hi:0<cnt ps i) (hc:cnt ps i=1073741824):Kc 87 #[.pointer (some ⟨g,0,none⟩),.int .i64 slot] w fun e w'=>e=.returned (.int .i64 4)∧w'=w:=by
 have HS:=Za h;have HI:=Za hi;have HE:=Za hs;have c2:=h.c2;obtain ⟨gp,c,rfl,c4,hil,j0,j1,hw,hm⟩:=h.at i hi;have HIL:=Za hil;have hle:=h.inv.most i;rw [hc] at c4;clear h hs hi hc hle;go_enter Tryz.func87,Tryz.ntmps87
 go_wp2_with (first
  |(go_at_call 114;refine (Zir g _ vf room ps fr slot i _ HS.out HE.out HI.out).mono ?_;rintro e w' ⟨rfl,rfl⟩))
 go_ret;exact ⟨rfl,rfl⟩
theorem Yar (g:Nat) (vp vf:Value) (room:Nat) (ps:List Pl) (fr:List Nat) (slot:Int) (i:Nat) (w:World) (h:SlC w g vp vf room ps fr) (hs:slot=(i:Int)+1) (hi:0<cnt ps i) (hc:cnt ps i<1073741824):Kc 87 #[.pointer (some ⟨g,0,none⟩),.int .i64 slot] w fun e w'=>e=.returned (.int .i64 0)∧TurnC w g (slB g vp vf) room (ps.set i (cnt ps i+1,thg ps i)) fr w':=by
 have HS:=Za h;have HI:=Za hi;have HE:=Za hs;have c2:=h.c2;obtain ⟨gp,c,rfl,c4,hil,j0,j1,hw,hm⟩:=h.at i hi;have HIL:=Za hil;have hle:=h.inv.most i;obtain ⟨q,hq⟩:∃q,q=cnt ps i:=⟨_,rfl⟩;rw [← hq] at c4 hle;have HQ:=Za hq;rw [← hq];have hne:((q:Int) == 1073741824)=false:=by simp;omega
 have f4:=Zew h.pls (i * (71+1));have hw1:wrap64 ((q:Int)+1)=((q+1:Nat):Int):=by rw [Go.IntWalk.wrap64_in _ (by omega)];rfl
 have HC:Hid (q+1≤1073741824):=by show q+1≤1073741824;omega
 clear h hs hi hc hq hle;go_enter Tryz.func87,Tryz.ntmps87
 go_wp2_with (first
  |(go_at_call 114;refine (Zir g _ vf room ps fr slot i _ HS.out HE.out HI.out).mono ?_;rintro e w' ⟨rfl,rfl⟩))
 go_ret;have h:=HS.out;have hl2:=Zib h.pls (i * (71+1)) (.int .i64 ((q+1:Nat):Int));rw [Zde h.wid i (q+1) HIL.out] at hl2;have m2:Mod [gp] w' (w'.setCell ⟨gp,i * (71+1),none⟩ (.int .i64 ((q+1:Nat):Int))):=Mod.setCell _ _ _ _ (by simp);obtain ⟨t1,t2⟩:=h.wid.at i HIL.out;refine ⟨rfl,_,_,⟨h.toSmC.over m2 (ps':=ps.set i (q+1,thg ps i)) (by rw [List.length_set];exact hl2) (h.wid.set i _ _ t1 t2),h.inv.held HI.out (by omega) HC.out _⟩,m2.mono (fun k hk=>by simp at hk;exact Zaa.2 (.inr (.inl (by rw [hk];rfl)))),New.refl _ _⟩
theorem Zrv (g:Nat) (vp vf:Value) (room:Nat) (ps:List Pl) (fr:List Nat) (slot:Int) (i:Nat) (w:World) (h:SlC w g vp vf room ps fr) (hs:slot=(i:Int)+1) (hi:0<cnt ps i) (hc:1<cnt ps i):Kc 92 #[.pointer (some ⟨g,0,none⟩),.int .i64 slot] w fun e w'=>e=.returned (.tuple #[.bool false,.int .i64 0])∧TurnC w g (slB g vp vf) room (ps.set i (cnt ps i-1,thg ps i)) fr w':=by
 have HS:=Za h;have HI:=Za hi;have HE:=Za hs;have c2:=h.c2;obtain ⟨gp,c,rfl,c4,hil,j0,j1,hw,hm⟩:=h.at i hi;have HIL:=Za hil;have hle:=h.inv.most i;obtain ⟨q,hq⟩:∃q,q=cnt ps i:=⟨_,rfl⟩;rw [← hq] at c4 hle;have HQ:=Za hq;rw [← hq];obtain ⟨r,hr⟩:∃r,q=r+1:=⟨q-1,by omega⟩;subst hr;have f4:=Zew h.pls (i * (71+1));have hw1:wrap64 (r:Int)=(r:Int):=Go.IntWalk.wrap64_in _ (by omega);have r0:(0:Int)<(r:Int):=by omega
 have c5:(w.setCell ⟨gp,i * (71+1),none⟩ (.int .i64 (r:Int))).cell? ⟨g,2,none⟩=some (.slice (some ⟨gp,0,none⟩) ps.length c):=by
  rw [Zio _ _ _ _ _ _ (fun e=>Zm h.pls h.blk Zjw (by rw [e];rfl))];exact c2
 have c6:(w.setCell ⟨gp,i * (71+1),none⟩ (.int .i64 (r:Int))).cell? ⟨gp,i * (71+1),none⟩=some (.int .i64 (r:Int)):=World.cell?_setCell_same' _ _ _ (by rw [c4];rfl);have HC:Hid (r≤1073741824∧0<r):=by show r≤1073741824∧0<r;omega
 clear h hs hi hc hq hle;go_enter Tryz.func92,Tryz.ntmps92
 go_wp2_with (first
  |(go_at_call 114;refine (Zir g _ vf room ps fr slot i _ HS.out HE.out HI.out).mono ?_;rintro e w' ⟨rfl,rfl⟩))
 go_ret2;have h:=HS.out;have hl2:=Zib h.pls (i * (71+1)) (.int .i64 (r:Int));rw [Zde h.wid i r HIL.out] at hl2;have m2:Mod [gp] w' (w'.setCell ⟨gp,i * (71+1),none⟩ (.int .i64 (r:Int))):=Mod.setCell _ _ _ _ (by simp);obtain ⟨t1,t2⟩:=h.wid.at i HIL.out;refine ⟨rfl,_,_,⟨h.toSmC.over m2 (ps':=ps.set i (r+1-1,thg ps i)) (by rw [List.length_set];exact hl2) (h.wid.set i _ _ t1 t2),h.inv.held HI.out (by have:=HC.out.2;omega) (by have:=HC.out.1;omega) _⟩,m2.mono (fun k hk=>by simp at hk;exact Zaa.2 (.inr (.inl (by rw [hk];rfl)))),New.refl _ _⟩
theorem Yik:Value.agg Tryz.zeroCells173=Value.agg (Value.int .i64 0::zcl).toArray:=by kernel_rfl
theorem Zrw (g:Nat) (vp vf:Value) (room:Nat) (ps:List Pl) (fr:List Nat) (slot:Int) (i:Nat) (w:World) (h:SlC w g vp vf room ps fr) (hs:slot=(i:Int)+1) (hi:0<cnt ps i) (hc:cnt ps i=1):Kc 92 #[.pointer (some ⟨g,0,none⟩),.int .i64 slot] w fun e w'=>e=.returned (.tuple #[.bool true,.int .i64 0])∧TurnC w g (slB g vp vf) room (ps.set i (0,zcl)) (fr++[i+1]) w':=by
 have HS:=Za h;have HI:=Za hi;have HE:=Za hs;have c2:=h.c2;obtain ⟨gp,c,rfl,c4,hil,j0,j1,hw,hm⟩:=h.at i hi;have HIL:=Za hil;rw [hc] at c4;have f4:=Zew h.pls (i * (71+1));have hl1:=Zib h.pls (i * (71+1)) (.int .i64 0);have m1:Mod [gp] w (w.setCell ⟨gp,i * (71+1),none⟩ (.int .i64 0)):=Mod.setCell _ _ _ _ (by simp);have hfs:=Zde h.wid i 0 hil;rw [show ((0:Nat):Int)=0 from rfl] at hfs;rw [hfs] at hl1;obtain ⟨t1,t2⟩:=h.wid.at i hil;have HM1:=Za (h.toSmC.over m1 (ps':=ps.set i (0,thg ps i)) (by rw [List.length_set];exact hl1) (h.wid.set i _ _ t1 t2));have HMd:=Za m1;have c5:=HM1.out.c2;have c6:(w.setCell ⟨gp,i * (71+1),none⟩ (.int .i64 0)).cell? ⟨gp,i * (71+1),none⟩=some (.int .i64 0):=World.cell?_setCell_same' _ _ _ (by rw [c4];rfl);have HL:=Za hl1;have HFR:Hid (fr.length+1≤65537):=by
  show fr.length+1≤65537;have:=h.inv.frlen;omega
 clear h hs hi hc hl1 m1 hfs t1 t2;go_enter Tryz.func92,Tryz.ntmps92
 go_wp2_with (first
  |(go_at_call 114;refine (Zir g _ vf room ps fr slot i _ HS.out HE.out HI.out).mono ?_;rintro e w' ⟨rfl,rfl⟩)
  |((with_reducible refine Zag 43 ?_);refine Zdf _ rfl _ _ _ rfl 173 (71+1) ps.length c gp (i * (71+1)) (flatS (ps.set i (0,thg ps i))) (Value.int .i64 0::zcl) rfl Yik HL.out Zou (by have:=Nat.mul_le_mul_right (71+1) (show i+1≤ps.length from HIL.out);rw [Nat.add_mul,Nat.one_mul] at this;exact this) Zxv ?_;intro w2 hl2 m2 sz2;have hs2:=Zdd HM1.out.wid i 0 zcl (by rw [List.length_set];exact HIL.out) rfl;rw [show ((0:Nat):Int)=0 from rfl,List.set_set] at hs2;rw [hs2] at hl2;have HM2:=Za (HM1.out.over m2 (ps':=ps.set i (0,zcl)) (by rw [List.length_set];exact hl2) (HS.out.wid.set i _ _ rfl (fun u hu=>Zxv u (by simp only [List.mem_cons];exact .inr (by simpa using hu)))));have HMd2:=Za m2;obtain ⟨a',c',rfl⟩:=Zj HM2.out.frs;have c7:=HM2.out.c3;clear hl2 m2 hs2 sz2)
  |(at_builtin;refine Zbl _ rfl _ _ _ rfl 3 1 8 Tryz.underlying28 Zah (by omega) _ fr.length (nats fr) rfl (Zfo HM2.out.frs (Zc _ _)) w2.heap.size [Value.int .i64 slot] rfl (Blk.new _ _ _) rfl (by intro u hu;simp at hu;subst hu;rfl) (by have:=HFR.out;simp only [maxLen];omega) (by have:=HFR.out;omega) ?_;intro v' w3 h3 g3 wh;obtain ⟨a2,c8,rfl⟩:=Zj h3;have hb3:=(HM2.out.blk.grow (Zc w2 (.cells #[Value.int .i64 slot] 3))).of_block (g3.block g (by have:=HM2.out.blk.lt;simp;omega) (fun e=>Zm HM2.out.frs HM2.out.blk Zyi e.symm));have c9:w3.cell? ⟨g,3,none⟩=some (.slice a' fr.length c'):=(by rw [hb3.cell];rfl);have f9:=hb3.frozen 3))
 go_ret2;have hse:slot=((i+1:Nat):Int):=by rw [HE.out];rfl
 have hfr:Lst w3 3 1 (.slice a2 (fr.length+1) c8) (fr++[i+1]).length (nats (fr++[i+1])):=by
  rw [Zan,List.length_append,List.length_singleton,← hse];exact h3
 have hmA:Mod (slB g (.slice (some ⟨gp,0,none⟩) ps.length c) (.slice a' fr.length c')) w2 w3:=(Mod.alloc w2 _ _).trans' (Mod.of_grown g3 (fun k hk=>Zaa.2 (.inr (.inr hk))));have hpl:Lst w3 173 (71+1) (.slice (some ⟨gp,0,none⟩) ps.length c) (ps.set i (0,zcl)).length (flatS (ps.set i (0,zcl))):=Zbd (Zfo HM2.out.pls (Zc _ _)) (Mod.of_grown g3 (S:=slB g (.slice none 0 0) (.slice a' fr.length c')) (fun k hk=>Zaa.2 (.inr (.inr hk)))) (fun k hk hn=>by
  rcases Zaa.1 hn with rfl | h | h
  ·exact Zm HM2.out.pls HM2.out.blk Zjw hk
  ·cases h
  ·exact Zic HM2.out.pls HM2.out.frs Ycy k hk h)
 have hgp:∀k∈[gp],k∈slB g (.slice (some ⟨gp,0,none⟩) ps.length c) (.slice a' fr.length c'):=fun k hk=>by
  simp at hk;exact Zaa.2 (.inr (.inl (by rw [hk];rfl)))
 have hmB:=((HMd.out.mono hgp).trans' (HMd2.out.mono hgp)).trans' hmA;refine ⟨rfl,_,_,⟨Yjj hb3 rfl hpl hfr HM2.out.wid,HS.out.inv.drop HI.out _⟩,hmB.trans' (Mod.setCell _ _ _ _ (Zaa.2 (.inl rfl))),Zjz (.inl rfl) ?_⟩;rcases wh with e | ⟨k,e,hk⟩
 ·exact .inl e
 ·refine .inr ⟨k,e,?_⟩;have h1:=HMd.out.size;have h2:=HMd2.out.size;simp at hk h1 h2;omega
end Go.Proofs.YtlclabbnpjobgaaGreatDoor
