/- A scene's roots, as audit looks at them. -/
import Derived.Test.YtlclabbnpjobgaaGreatDoorAp48
namespace Go.Proofs.YtlclabbnpjobgaaGreatDoor
variable {L al ks:Lq}
variable {b base c g gc gs m n nb q room:Nat}
variable {cs:Lz}
variable {fr:List Nat}
variable {root:Int}
variable {rv v va:Value}
variable {w w' w0:World}
set_option maxRecDepth 20000
open Go.RowKit
theorem Yiz (l:List Nat):nats l=(zN l).map (Value.int .i64):=by simp [nats,zN]
def rtsOf (A:List Nat) (n:Nat):List Nat:=A++(if n=0 then [] else [n])
theorem Sn.au (h:Sn w0 w gc g gs q room cs fr root va al nb):Au w (.pointer (some ⟨g,0,none⟩)) cs:=by
 obtain ⟨S,p,_⟩:=h.ex;obtain ⟨S',hs⟩:=p.hs;exact hs.au
def RVb (v:Value):Option (DataW Value×List MemPlace):=some (.held v,[])
def SB (w:World) (b:Nat) (ks:Lq):Prop:=∃(n:Nat) (D:DataW Value),n≤1073741824∧w.ownsMap Tryz.prog 3 RVb b n D∧(∀x∈ks,∀z,D.atKey (kl7 x) z=.held (.bool true))∧(∀x,x ∉ ks→Maps.has D (kl7 x)=false)∧Maps.size D=ks.length
theorem Zrl {H:Type} {P:Program} {k:TypeId} {R:Value→Option (DataW H×List MemPlace)} {D:DataW H} (h:w.ownsMap P k R b n D) (hm:Maps.size D≤m):w.ownsMap P k R b m D:=by
 obtain ⟨es,clock,h1,h2,h3,rfl⟩:=h;refine ⟨es,clock,h1,h2,?_,rfl⟩;simpa [Maps.size,length_sorted] using hm
theorem SB.grow (h:SB w b ks) (hb:Kb w w'):SB w' b ks:=by
 obtain ⟨n,D,h0,⟨es,clock,k1,k2⟩,h3⟩:=h;exact ⟨n,D,h0,⟨es,clock,(hb.block b (Array.getElem?_eq_some_iff.1 k1).1).trans k1,k2⟩,h3⟩
theorem SB.new (w:World):SB (w.alloc (.map #[] 0)) w.heap.size []:=⟨0,.map [],by omega,World.ownsMap_made w _ _ _,(fun _ h=>nomatch h),fun x _=>rfl,rfl⟩
theorem SB.look (h:SB w b ks) {x:Int} (hx:Wfi x):(Instr.lookup 36 (.map (some b)) (.int .i64 x) false).run Tryz.prog w=.ok (.bool (decide (x∈ks))) w:=by
 obtain ⟨n,D,_,h1,h2,h3,_⟩:=h;obtain ⟨v,ps,hrun,hR⟩:=h1.lookup iK7 Tryz.underlying36 (Tryz.zeroValue4 w) (zd:=.held (.bool false)) (zp:=[]) rfl (Yam hx);rw [hrun];unfold RVb at hR;injection hR with hR;injection hR with hR _
 by_cases e:x∈ks
 ·rw [h2 x e] at hR;injection hR with hR;rw [hR,decide_eq_true e]
 ·rw [Maps.atKey_of_not_has (h3 x e)] at hR;injection hR with hR;rw [hR,decide_eq_false e]
theorem SB.len (h:SB w b ks) (ty:TypeId):(Builtin.len_ #[36] ty #[.map (some b)]).run Tryz.prog w=.ok (.int .i64 (ks.length:Int)) w:=by
 obtain ⟨n,D,_,h1,_,_,h4⟩:=h;rw [h1.len Tryz.underlying36 ty,h4]
def putK (ks:Lq) (x:Int):Lq:=if x∈ks then ks else ks++[x]
theorem Zkh (ks:Lq) (x y:Int):y∈putK ks x↔y∈ks∨y=x:=by
 unfold putK;split
 ·next h=>exact ⟨.inl,fun q=>q.elim id fun e=>e ▸ h⟩
 ·simp
theorem Yea (h:ks.Nodup) (x:Int):(putK ks x).Nodup:=by
 unfold putK;split
 ·exact h
 ·next q=>
  rw [List.nodup_append];exact ⟨h,by simp,fun a ha b hb=>by
   simp only [List.mem_singleton] at hb;rintro rfl;exact q (hb ▸ ha)⟩
theorem SB.put (h:SB w b ks) (x:Int) (hx:Wfi x) (hl:ks.length<1073741824):∃w',(Instr.mapUpdate 36 (.map (some b)) (.int .i64 x) (.bool true)).run Tryz.prog w=.ok () w'∧SB w' b (putK ks x)∧w.grownBy w' (some b):=by
 obtain ⟨n,D,h0,h1,h2,h3,h4⟩:=h;obtain ⟨w',hrun,hown,hg⟩:=h1.update iK7 Tryz.underlying36 (by simp only [maxLen];omega) (Yam hx) (val:=.bool true) (d:=.held (.bool true)) (ps:=[]) rfl;have hsz:Maps.size (D.put (kl7 x) (.held (.bool true)))=(putK ks x).length:=by
  rw [Maps.size_put (h1.tidy iK7),h4];unfold putK
  by_cases e:x∈ks
  ·have:Maps.has D (kl7 x)=true:=Maps.has_true_of_atKey (fun z=>h2 x e z);rw [this,if_pos e];simp
  ·rw [h3 x e,if_neg e];simp
 refine ⟨w',hrun,⟨(putK ks x).length,_,?_,Zrl hown (by rw [hsz];exact Nat.le_refl _),fun y hy z=>?_,fun y hy=>?_,hsz⟩,hg⟩
 ·unfold putK;split
  ·omega
  ·simp only [List.length_append,List.length_singleton];omega
 ·rw [Zkh] at hy
  by_cases e:y=x
  ·subst e;exact Maps.atKey_put_same h1.isMap (Zvp _) _ _
  ·rw [Maps.atKey_put_other (Zvo e)];rcases hy with hy | hy
   ·exact h2 y hy z
   ·exact absurd hy e
 ·rw [Zkh] at hy;have e:y≠x:=fun q=>hy (.inr q)
  rw [Maps.has_put_other (Zvo e)];exact h3 y (fun q=>hy (.inl q))
theorem Zxr (ct:Int→Nat) (ca:Int→Ce) (x:Int):auE ct ca [x]=vRt true (ct x) (ca x) x:=by
 rw [auE,if_neg (by simp)];show (if vRt true (ct x) (ca x) x=0 then (0:Int) else _)=_;split
 ·next h=>exact h.symm
 ·rfl
theorem Zoi (ct:Int→Nat) (ca:Int→Ce) (x y:Int):auE ct ca [x,y]=if vRt true (ct x) (ca x) x=0 then vRt true (ct y) (ca y) y else vRt true (ct x) (ca x) x:=by
 rw [auE,if_neg (by simp)];show (if vRt true (ct x) (ca x) x=0 then (if vRt true (ct y) (ca y) y=0 then (0:Int) else vRt true (ct y) (ca y) y) else vRt true (ct x) (ca x) x)=_;split
 ·split
  ·next h=>exact h.symm
  ·rfl
 ·rfl
theorem Znf {x:Int} (h:vRt true (cot cs x) (cat cs x) x=0):∃n:Nat,x=(n:Int)∧(n≠0→0<cc cs (n-1)):=by
 by_cases e:x=0
 ·exact ⟨0,e,fun q=>absurd rfl q⟩
 ·by_cases c:cot cs x=0
  ·simp [vRt,e,c] at h
  ·obtain ⟨i,h1,h2,_⟩:=Zel (Nat.pos_of_ne_zero c);exact ⟨i+1,by rw [h1];rfl,fun _=>by simpa using h2⟩
theorem Znd (h:vRt true (cot cs n) (cat cs n) n=0) (hl:n≠0→0<cc cs (n-1)):Rts cs [n]:=
 ⟨by rw [show zN [n]=[(n:Int)] from rfl,Zxr];exact h,fun x hx q=>by
  simp only [List.mem_singleton] at hx;subst hx;exact hl q⟩
theorem Znc (h:vRt true (cot cs n) (cat cs n) n=0) (hl:n≠0→0<cc cs (n-1)) (h':vRt true (cot cs m) (cat cs m) m=0) (hl':m≠0→0<cc cs (m-1)):Rts cs [n,m]:=
 ⟨by rw [show zN [n,m]=[(n:Int),(m:Int)] from rfl,Zoi,if_pos h];exact h',fun x hx q=>by
  simp only [List.mem_cons,List.not_mem_nil,or_false] at hx;rcases hx with rfl | rfl
  ·exact hl q
  ·exact hl' q⟩
theorem Zra (ps:List Pl):(slotsOf ps).Pairwise (· < ·):=by
 unfold slotsOf slotsK;rw [List.pairwise_map];exact (List.pairwise_lt_range.filter _).imp fun q=>Nat.succ_lt_succ q
theorem Zhn (l:List Nat) (x:Int):x∈srtI l↔∃n∈l,x=(n:Int):=by
 rw [(Zle l).mem_iff,Zsg]
theorem Zvh {a b:Lq} (ha:a.Nodup) (hb:b.Nodup) (h:∀x,x∈a↔x∈b):a.length=b.length:=((List.perm_ext_iff_of_nodup ha hb).2 h).length_eq
theorem Ydr {a:Lq} (h:a.Pairwise (· < ·)):a.Nodup:=h.imp fun q e=>by omega
theorem Znp (W:Wf cs []) {n m:Nat} (lv:∀h∈[n,m],h≠0→0<cc cs (h-1)) {P1 P2 P3 P4:List Nat} (r1:RdA cs [n] P1) (r2:RdA cs [m] P2) (r3:RdA cs [n,m] P3) (r4:RdA cs [n,m] P4):
  (∀x:Int,x∈srtI (rch P3)↔x∈srtI (rch P1)∨x∈srtI (rch P2))∧(srtI (rch P3)).Pairwise (· < ·)∧(zN (lsA P4 (slotsOf (cs.map pl)))).Pairwise (· < ·)∧(rch P3).length+(lsA P4 (slotsOf (cs.map pl))).length=noc cs∧
  (∀x∈zN (lsA P4 (slotsOf (cs.map pl))),x ∉ srtI (rch P1)∧x ∉ srtI (rch P2)∧0<cot cs x):=by
 have hm:∀x:Int,x∈srtI (rch P3)↔x∈srtI (rch P1)∨x∈srtI (rch P2):=fun x=>by
  rw [Zhn,Zhn,Zhn];constructor
  ·rintro ⟨y,hy,e⟩;rcases Zno.1 ((r3.mem y).1 hy) with q | q
   ·exact .inl ⟨y,(r1.mem y).2 q,e⟩
   ·exact .inr ⟨y,(r2.mem y).2 q,e⟩
  ·rintro (⟨y,hy,e⟩ | ⟨y,hy,e⟩)
   ·exact ⟨y,(r3.mem y).2 (Zno.2 (.inl ((r1.mem y).1 hy))),e⟩
   ·exact ⟨y,(r3.mem y).2 (Zno.2 (.inr ((r2.mem y).1 hy))),e⟩
 refine ⟨hm,Zth (Zdh _),?_,?_,?_⟩
 ·have h1:(slotsOf (cs.map pl)).Pairwise (· < ·):=Zra _;have h2:(lsA P4 (slotsOf (cs.map pl))).Pairwise (· < ·):=h1.filter _;unfold zN;rw [List.pairwise_map];exact h2.imp fun q=>Int.ofNat_lt.2 q
 ·have e:(rch P3).length=(rch P4).length:=((List.perm_ext_iff_of_nodup (Zdh P3) (Zdh P4)).2 fun x=>by rw [r3.mem,r4.mem]).length_eq;rw [e];exact Zux W lv r4
 ·intro x hx;obtain ⟨y,hy,e⟩:=(Zsg _ _).1 hx;obtain ⟨⟨y0,yc⟩,hn⟩:=(Zpl r4 y).1 hy;have hno:x ∉ srtI (rch P3):=fun q=>by
   obtain ⟨z,hz,e2⟩:=(Zhn _ _).1 q;obtain rfl:z=y:=by omega
   exact hn ((r3.mem z).1 hz)
  refine ⟨fun q=>hno ((hm x).2 (.inl q)),fun q=>hno ((hm x).2 (.inr q)),?_⟩;rw [e];unfold cot;rw [if_pos (by omega),show ((y:Int)-1).toNat=y-1 by omega];exact yc
theorem Zom (hn:n=L.length) (h:w.ownsRow base 3 1 v n (L.map (Value.int .i64))):Zs w v L:=by
 subst hn;obtain ⟨a,c,rfl⟩:=Zj (Zu h);refine ⟨a,c,rfl,fun k hk=>?_⟩;obtain ⟨g,c',e,_⟩:=Zat (Zu h) (by omega);injection e with e1 e2 e3;subst e1;refine ⟨g,0,rfl,?_⟩;rw [Nat.zero_add,Zay (Zu h) k (by omega)];simp [List.getD,hk]
theorem Zfx (w:World) (x:Int):Zs (w.alloc (.cells #[.int .i64 x] 3)) (.slice (some ⟨w.heap.size,0,none⟩) 1 1) [x]:=⟨_,1,rfl,fun k hk=>⟨w.heap.size,0,rfl,by
 have hr:(w.alloc (.cells #[.int .i64 x] 3)).heap[w.heap.size]?=some (.cells #[.int .i64 x] 3 (0,0)):=heap_alloc_new w _;rw [cell_of_row _ _ _ _ _ _ hr]
 match k,hk with
 | 0,_=>rfl⟩⟩
theorem Zfw (w:World) (x y:Int):Zs (w.alloc (.cells #[.int .i64 x,.int .i64 y] 3)) (.slice (some ⟨w.heap.size,0,none⟩) 2 2) [x,y]:=⟨_,2,rfl,fun k hk=>⟨w.heap.size,0,rfl,by
 have hr:(w.alloc (.cells #[.int .i64 x,.int .i64 y] 3)).heap[w.heap.size]?=some (.cells #[.int .i64 x,.int .i64 y] 3 (0,0)):=heap_alloc_new w _;rw [cell_of_row _ _ _ _ _ _ hr]
 match k,hk with
 | 0,_=>rfl
 | 1,_=>rfl⟩⟩
theorem Yfw {a:Option Addr} {l:Nat} (h:Kp w (fun w'=>Zs w' (.slice a l c) L)) (hl:L.length=l) (h0:0<l):∃b o,a=some ⟨b,o,none⟩∧∀p,p<l→∀w',Kb w w'→w'.cell? ⟨b,o+p,none⟩=some (.int .i64 (L.getD p 0)):=by
 obtain ⟨a',c',e,hc⟩:=h.now;injection e with e1 e2 e3;subst e1;obtain ⟨b,o,ea,_⟩:=hc 0 (by omega);refine ⟨b,o,ea,fun p hp w' hb=>?_⟩;obtain ⟨b',o',e',hcell⟩:=hc p (by omega);rw [ea] at e';injection e' with e';injection e' with e4 e5;subst e4;subst e5;exact Zx hb hcell
theorem Zuk (h:L.Pairwise (· < ·)) {i:Nat} (h0:0<i) (hi:i<L.length):L.getD (i-1) 0<L.getD i 0:=by
 rw [List.getD_eq_getElem?_getD,List.getD_eq_getElem?_getD,List.getElem?_eq_getElem hi,List.getElem?_eq_getElem (show i-1<L.length by omega)];exact List.pairwise_iff_getElem.1 h (i-1) i (by omega) hi (by omega)
theorem Zhb (A:Au w v cs) {x:Int} (hz:Zs w rv [x]):Kc 8 #[v,rv] w fun e w'=>∃a l c,e=.returned (.tuple #[.slice a l c,.int .i64 (vRt true (cot cs x) (cat cs x) x)])∧Kb w w':=by
 by_cases h:vRt true (cot cs x) (cat cs x) x=0
 ·obtain ⟨n,rfl,hl⟩:=Znf h;refine (Zkf A (Znd h hl) (rv:=rv) hz).mono ?_;rintro e w' ⟨P,a,c,e1,_,_,e4⟩;rw [h];exact ⟨a,_,c,e1,e4⟩
 ·have h1:auE (cot cs) (cat cs) [x]=vRt true (cot cs x) (cat cs x) x:=Zxr _ _ _;refine (Znm (Zeg A.vw hz (by rw [h1];exact h)) (by rw [h1];exact h)).mono ?_;rintro e w' ⟨e1,e2⟩;rw [h1] at e1;exact ⟨none,0,0,e1,e2⟩
structure PaF (cs:Lz) (LA LB LC LD:Lq):Prop where
 mem:∀x:Int,x∈LC↔x∈LA∨x∈LB
 riseC:LC.Pairwise (· < ·)
 riseD:LD.Pairwise (· < ·)
 sum:LC.length+LD.length=noc cs
 lost:∀x∈LD,x ∉ LA∧x ∉ LB∧0<cot cs x
 la:LA.length≤70000
 lb:LB.length≤70000
 lc:LC.length≤70000
 ld:LD.length≤70000
 wfC:∀x∈LC,Wfi x
 wfD:∀x∈LD,Wfi x
theorem Zva (W:Wf cs []) (hcs:cs.length≤65536) {n m:Nat} (lv:∀h∈[n,m],h≠0→0<cc cs (h-1)) {P1 P2 P3 P4:List Nat} (r1:RdA cs [n] P1) (r2:RdA cs [m] P2) (r3:RdA cs [n,m] P3) (r4:RdA cs [n,m] P4):
  ∃LA LB LC LD:Lq,(LA=srtI (rch P1)∧LA.length=(rch P1).length)∧(LB=srtI (rch P2)∧LB.length=(rch P2).length)∧(LC=srtI (rch P3)∧LC.length=(rch P3).length)∧(LD=zN (lsA P4 (slotsOf (cs.map pl)))∧LD.length=(lsA P4 (slotsOf (cs.map pl))).length)∧PaF cs LA LB LC LD:=by
 obtain ⟨f1,f2,f3,f4,f5⟩:=Znp W lv r1 r2 r3 r4;have b1:=Zhu W (fun h hh=>lv h (by simp only [List.mem_singleton] at hh;simp [hh])) r1.rc;have b2:=Zhu W (fun h hh=>lv h (by simp only [List.mem_singleton] at hh;simp [hh])) r2.rc;have b3:=Zhu W lv r3.rc;have b4:(lsA P4 (slotsOf (cs.map pl))).length≤65536:=by
  refine Nat.le_trans (List.length_filter_le _ _) ?_;rw [Zbf];have h2:occs (cs.map pl)≤(cs.map pl).length:=by
   unfold occs;exact List.countP_le_length
  rw [List.length_map] at h2;omega
 have wl:∀y:Nat,0<cc cs (y-1)→Wfi (y:Int):=fun y hy=>by
  refine Zdy y ?_;have:y-1<cs.length:=Zaw hy;omega
 refine ⟨_,_,_,_,⟨rfl,Zaq _⟩,⟨rfl,Zaq _⟩,⟨rfl,Zaq _⟩,⟨rfl,Zak _⟩,⟨f1,f2,f3,by rw [Zaq,Zak];exact f4,f5,by rw [Zaq];omega,by rw [Zaq];omega,by rw [Zaq];omega,by rw [Zak];omega,fun x hx=>?_,fun x hx=>?_⟩⟩
 ·obtain ⟨y,hy,rfl⟩:=(Zhn _ _).1 hx;exact wl y (((r3.mem y).1 hy).live W lv).2
 ·obtain ⟨y,hy,rfl⟩:=(Zsg _ _).1 hx;exact wl y ((Zpl r4 y).1 hy).1.2
set_option maxRecDepth 100000 in
set_option maxHeartbeats 16000000 in
theorem Ziq (room:Int) (v:Value) (qs:List Ap) (one two:Int) (w:World) (hv:ApAt w v qs) (hL:Laid w):Kc 3 #[.int .i64 room,v,.int .i64 one,.int .i64 two] w fun e w'=>e=.returned (.bool true)∧Kb w w':=by
 have HAW:=Za (Zoh w hL);have hvg:∀w',Kb w w'→ApAt w' v qs:=fun w' hb=>by
  obtain ⟨a,c,e,h1,h2⟩:=hv;refine ⟨a,c,e,fun hp=>?_,fun i hi=>⟨(h2 i hi).1,(h2 i hi).2.1.grow hb,(h2 i hi).2.2⟩⟩;obtain ⟨b,off,e1,h3⟩:=h1 hp;exact ⟨b,off,e1,fun i hi k u hu=>Zx hb (h3 i hi k u hu)⟩
 have HLG:Hid (∀lb:Bool,(lb=false↔LgOk room qs)→Kr w 6 #[.int .i64 room,v] (.bool lb)):=fun lb hlb w' hb=>Yhc room v qs w' (hvg w' hb) lb hlb
 have HPL:Hid (LgOk room qs→∀w',Kb w w'→∃rm:Nat,Kc 7 #[.int .i64 room,v] w' (PlPost9 w' rm qs.length)):=fun hg w' hb=>by
  obtain ⟨rm,rfl⟩:∃n:Nat,room=(n:Int):=⟨room.toNat,by have:=hg.1;omega⟩;exact ⟨rm,Yiv rm v qs w' (hvg w' hb) (fun w'' h=>hL.grow (Zb hb h)) hg⟩
 obtain ⟨va0,vc0,hv0⟩:∃a c,v=.slice a qs.length c:=by
  obtain ⟨a,c,e,_⟩:=hv;exact ⟨a,c,e⟩
 subst hv0;obtain ⟨N,hN⟩:∃n,n=qs.length:=⟨_,rfl⟩;rw [← hN] at HLG HPL ⊢;clear hL hvg hv hN
 by_cases hg:LgOk room qs
 ·have HL1:=Za (HLG.out false (by simp [hg]))
  by_cases h8:8<N
  ·have h81:(8:Int)<(N:Int):=by omega
   clear HPL HLG;go_enter Tryz.func3,Tryz.ntmps3
   go_wp2_with (first
    |(go_at_call 5;refine HAW.out.mono ?_;rintro e w1 ⟨rfl,q1⟩;have HQ1:=Za q1;clear q1)
    |(go_at_call 6;refine (HL1.out _ HQ1.out).mono ?_;rintro e w2 ⟨rfl,q2⟩;have HQ2:=Za (Zb HQ1.out q2);clear q2))
   go_ret;exact ⟨rfl,HQ2.out⟩
  ·have h81: ¬(8:Int)<(N:Int):=by omega
   have HP1:=Za (HPL.out hg);clear HLG HPL hg;go_enter Tryz.func3,Tryz.ntmps3
   go_wp2_with (first
    |(go_at_call 5;refine HAW.out.mono ?_;rintro e w1 ⟨rfl,q1⟩;have HQ1:=Za q1;clear q1)
    |(go_at_call 6;refine (HL1.out _ HQ1.out).mono ?_;rintro e w2 ⟨rfl,q2⟩;have HQ2:=Za (Zb HQ1.out q2);clear q2;obtain ⟨rm,hp⟩:=HP1.out _ HQ2.out;have HP:=Za hp;clear hp)
    |(go_at_call 7;refine HP.out.mono ?_;rintro e w3 ⟨gc,g,gs,q,cs,fr,root,va,al,rfl,s3⟩;have HQ3:=Za (Zb HQ2.out s3.low);have KA:=Za (show Kp w3 (fun w'=>Au w' (.pointer (some ⟨g,0,none⟩)) cs) from fun _ q=>s3.au.grow q);have HW:=Za s3.au.wf;have HCL:=Za s3.au.le;have KO:=Za (show Kp w3 (fun w'=>Kc 10 #[.pointer (some ⟨g,0,none⟩)] w' fun e w''=>e=.returned (.int .i64 (noc cs:Int))∧Below w'.heap.size w' w'') from fun w' hb=>by (obtain ⟨S,p7,_⟩:=s3.ex;obtain ⟨S',hs⟩:=p7.hs;exact Ycj (hs.grow hb)));obtain ⟨y0,y1,y2,y3⟩:=Zp s3.blk;have KG:=Za (show Kp w3 (fun w'=>w'.cell? ⟨gc,0,none⟩=some (.pointer (some ⟨g,0,none⟩))) from fun _ q=>Zx q y0);have KB:=Za (show Kp w3 (fun w'=>Kb w w') from fun _ q=>Zb HQ3.out q);clear s3 y1 y2 y3))
   clear HQ1 HQ2 HQ3 HP1 HL1 HAW
   by_cases g1:vRt true (cot cs one) (cat cs one) one=0
   ·by_cases g2:vRt true (cot cs two) (cat cs two) two=0
    ·obtain ⟨n1,en1,hl1⟩:=Znf g1;obtain ⟨n2,en2,hl2⟩:=Znf g2;subst en1;subst en2;have HR1:Hid (∀w' u,Au w' (.pointer (some ⟨g,0,none⟩)) cs→Zs w' u [(n1:Int)]→Kc 8 #[.pointer (some ⟨g,0,none⟩),u] w' (RePost cs [n1] w')):=fun w' u A hz=>Zkf A (Znd g1 hl1) hz
     have HR2:Hid (∀w' u,Au w' (.pointer (some ⟨g,0,none⟩)) cs→Zs w' u [(n2:Int)]→Kc 8 #[.pointer (some ⟨g,0,none⟩),u] w' (RePost cs [n2] w')):=fun w' u A hz=>Zkf A (Znd g2 hl2) hz
     have HR3:Hid (∀w' u,Au w' (.pointer (some ⟨g,0,none⟩)) cs→Zs w' u [(n1:Int),(n2:Int)]→Kc 8 #[.pointer (some ⟨g,0,none⟩),u] w' (RePost cs [n1,n2] w')):=fun w' u A hz=>Zkf A (Znc g1 hl1 g2 hl2) hz
     have HLo:Hid (∀w' u,Au w' (.pointer (some ⟨g,0,none⟩)) cs→Zs w' u [(n1:Int),(n2:Int)]→Kc 9 #[.pointer (some ⟨g,0,none⟩),u] w' (LoPost cs [n1,n2] w')):=fun w' u A hz=>Yab A (Znc g1 hl1 g2 hl2) hz
     have HLV:=Za (Znc g1 hl1 g2 hl2).lv;have hmm:=@run_makeMap Tryz.prog;clear g1 g2 hl1 hl2
     go_wp2_with (first
      |(go_at_call 9;have mk:=mk_3;clear mk;refine (HLo.out _ _ (KA.out _ (Zc _ _)) (Zfw _ _ _)).mono ?_;rintro e w7 ⟨P4,a4,c4,rfl,r4,o4,qq⟩;have hq:=Zb (Zc _ _) qq;replace KA:=Za (KA.out.step hq);replace KG:=Za (KG.out.step hq);replace KB:=Za (KB.out.step hq);replace KO:=Za (KO.out.step hq);replace KZ1:=Za (KZ1.out.step hq);replace KZ2:=Za (KZ2.out.step hq);replace KZ3:=Za (KZ3.out.step hq);have HP4:=Za r4;have KZ4:=Za (show Kp w7 (fun w'=>Zs w' (.slice a4 (lsA P4 (slotsOf (cs.map pl))).length c4) (zN (lsA P4 (slotsOf (cs.map pl))))) from fun _ q=>(Zom (Zak _).symm (by rw [← Yiz];exact o4)).grow q);clear r4 o4;have mk_4:Hid True:=trivial;clear hq qq;have yy3:=KG.out.now)
      |(go_at_call 8;have mk:=mk_2;clear mk;refine (HR3.out _ _ (KA.out _ (Zc _ _)) (Zfw _ _ _)).mono ?_;rintro e w6 ⟨P3,a3,c3,rfl,r3,o3,qq⟩;have hq:=Zb (Zc _ _) qq;replace KA:=Za (KA.out.step hq);replace KG:=Za (KG.out.step hq);replace KB:=Za (KB.out.step hq);replace KO:=Za (KO.out.step hq);replace KZ1:=Za (KZ1.out.step hq);replace KZ2:=Za (KZ2.out.step hq);have HP3:=Za r3;have KZ3:=Za (show Kp w6 (fun w'=>Zs w' (.slice a3 (rch P3).length c3) (srtI (rch P3))) from fun _ q=>(Zom (Zaq _).symm o3).grow q);clear r3 o3;have mk_3:Hid True:=trivial;clear hq qq;have yy2:=KG.out.now)
      |(go_at_call 8;have mk:=mk_1;clear mk;refine (HR2.out _ _ (KA.out _ (Zc _ _)) (Zfx _ _)).mono ?_;rintro e w5 ⟨P2,a2,c2,rfl,r2,o2,qq⟩;have hq:=Zb (Zc _ _) qq;replace KA:=Za (KA.out.step hq);replace KG:=Za (KG.out.step hq);replace KB:=Za (KB.out.step hq);replace KO:=Za (KO.out.step hq);replace KZ1:=Za (KZ1.out.step hq);have HP2:=Za r2;have KZ2:=Za (show Kp w5 (fun w'=>Zs w' (.slice a2 (rch P2).length c2) (srtI (rch P2))) from fun _ q=>(Zom (Zaq _).symm o2).grow q);clear r2 o2;have mk_2:Hid True:=trivial;clear hq qq;have yy1:=KG.out.now)
      |(go_at_call 8;refine (HR1.out _ _ (KA.out _ (Zc _ _)) (Zfx _ _)).mono ?_;rintro e w4 ⟨P1,a1,c1,rfl,r1,o1,qq⟩;have hq:=Zb (Zc _ _) qq;replace KA:=Za (KA.out.step hq);replace KG:=Za (KG.out.step hq);replace KB:=Za (KB.out.step hq);replace KO:=Za (KO.out.step hq);have HP1:=Za r1;have KZ1:=Za (show Kp w4 (fun w'=>Zs w' (.slice a1 (rch P1).length c1) (srtI (rch P1))) from fun _ q=>(Zom (Zaq _).symm o1).grow q);clear r1 o1;have mk_1:Hid True:=trivial;clear hq qq;have yy0:=KG.out.now))
     obtain ⟨LA,LB,LC,LD,hLA,hLB,hLC,hLD,hPF⟩:=Zva HW.out HCL.out HLV.out HP1.out HP2.out HP3.out HP4.out;have hz1:=KZ1.out;have hz2:=KZ2.out;have hz3:=KZ3.out;have hz4:=KZ4.out;rw [← hLA.1] at hz1;rw [← hLB.1] at hz2;rw [← hLC.1] at hz3;rw [← hLD.1] at hz4;have hA2:=hLA.2;have hB2:=hLB.2;have hC2:=hLC.2;have hD2:=hLD.2;clear hLA hLB hLC hLD KZ1 KZ2 KZ3 KZ4 HP1 HP2 HP3 HP4 HLV HR1 HR2 HR3 HLo hmm HCL HW HP;generalize (rch P1).length=l1 at *;generalize (rch P2).length=l2 at *;generalize (rch P3).length=l3 at *;generalize (lsA P4 (slotsOf (cs.map pl))).length=l4 at *;have HZ1:=Za hz1;have HZ2:=Za hz2;have HZ3:=Za hz3;have HZ4:=Za hz4;have HPF:=Za hPF;have HLn:Hid (LA.length=l1∧LB.length=l2∧LC.length=l3∧LD.length=l4∧l1≤70000∧l2≤70000∧l3≤70000∧l4≤70000):=⟨hA2,hB2,hC2,hD2,by rw [← hA2];exact hPF.la,by rw [← hB2];exact hPF.lb,by rw [← hC2];exact hPF.lc,by rw [← hD2];exact hPF.ld⟩;have hsz:(w7.alloc (.map #[] 0)).heap.size=w7.heap.size+1:=by simp
     have HS0:=Za ((SB.new w7).grow (Zc (w7.alloc (.map #[] 0)) (.cells #[.slice a1 l1 c1,.slice a2 l2 c2] 28)));have hbk:=Blk.new (w7.alloc (.map #[] 0)) 28 #[.slice a1 l1 c1,.slice a2 l2 c2];rw [hsz] at hbk;have HBk:=Za hbk;have HB9:=Za (Zb (Zc w7 (.map #[] 0)) (Zc (w7.alloc (.map #[] 0)) (.cells #[.slice a1 l1 c1,.slice a2 l2 c2] 28)));clear hz1 hz2 hz3 hz4 hA2 hB2 hC2 hD2 hPF hbk hsz;generalize (w7.alloc (.map #[] 0)).alloc (.cells #[.slice a1 l1 c1,.slice a2 l2 c2] 28)=w9 at *;obtain ⟨bm,hbm⟩:∃bm,bm=w7.heap.size:=⟨_,rfl⟩;rw [← hbm] at HS0 HBk;simp only [← hbm];have HBM:=Za hbm;clear hbm
     go_loopw [114] (fun jv wr=>∃(j:Nat) (ks:Lq),j≤2∧jv=.int .i64 (j:Int)∧Hid (SB wr bm ks)∧Hid ks.Nodup∧Hid (∀x,x∈ks↔(0<j∧x∈LA)∨(1<j∧x∈LB))∧Hid (ks.length≤j * 70000)∧Hid (Kb w7 wr)∧Hid (Blk wr (bm+1) 28 #[.slice a1 l1 c1,.slice a2 l2 c2])) (fun jv _=>2-(intOf jv).toNat)
     case atStart=>exact ⟨0,[],by omega,rfl,HS0.out,List.nodup_nil,fun x=>by simp,by show _≤_;simp,HB9.out,HBk.out⟩
     case round=>
      obtain ⟨j,ks,hj,rfl,hS,hnd,hmem,hlen,hBw,hBk⟩:=hrel;have hln:=HLn.out
      by_cases hj2:j<2
      ·have z1:(j:Int)<2:=by omega
       have z0:(0:Int)≤(j:Int):=by omega
       obtain ⟨Lj,aj,lj,cj,hcl,hzj,hlj,hl7,hsub,hmm2⟩:∃(Lj:Lq) (aj:Option Addr) (lj cj:Nat),wr.cell? ⟨bm+1,j,none⟩=some (.slice aj lj cj)∧Kp w7 (fun w'=>Zs w' (.slice aj lj cj) Lj)∧Lj.length=lj∧lj≤70000∧(∀x∈Lj,x∈LC)∧∀x:Int,((0<j+1∧x∈LA)∨(1<j+1∧x∈LB))↔((0<j∧x∈LA)∨(1<j∧x∈LB))∨x∈Lj:=by
        have h01:j=0∨j=1:=by omega
        rcases h01 with rfl | rfl
        ·exact ⟨LA,a1,l1,c1,by rw [hBk.out.cell];rfl,HZ1.out,hln.1,hln.2.2.2.2.1,fun x hx=>(HPF.out.mem x).2 (.inl hx),fun x=>by simp⟩
        ·exact ⟨LB,a2,l2,c2,by rw [hBk.out.cell];rfl,HZ2.out,hln.2.1,hln.2.2.2.2.2.1,fun x hx=>(HPF.out.mem x).2 (.inr hx),fun x=>by simp⟩
       have HZj:=Za hzj;have HLj:=Za hlj;have HSub:=Za hsub;have HMm:=Za hmm2;obtain ⟨wo,hwo⟩:∃wo,wo=wr:=⟨_,rfl⟩;subst hwo;clear hzj hlj hsub hmm2 hln;go_wp2
       go_loopw [23] (fun iv wr=>∃(i:Nat) (kt:Lq),i≤lj∧iv=.int .i64 (i:Int)∧Hid (SB wr bm kt)∧Hid kt.Nodup∧Hid (∀x,x∈kt↔x∈ks∨x∈Lj.take i)∧Hid (kt.length≤j * 70000+i)∧Hid (Kb w7 wr)∧Hid (Blk wr (bm+1) 28 #[.slice a1 l1 c1,.slice a2 l2 c2])) (fun iv _=>lj-(intOf iv).toNat)
       case atStart=>exact ⟨0,ks,by omega,rfl,hS.out,hnd.out,fun x=>⟨.inl,fun q=>q.elim id (fun q=>by rw [List.take_zero] at q;cases q)⟩,Za (Nat.le_trans hlen.out (Nat.le_add_right (j * 70000) 0)),hBw.out,hBk.out⟩
       case round=>
        obtain ⟨i,kt,hi,rfl,hSi,hndi,hmemi,hleni,hBwi,hBki⟩:=hrel
        by_cases hil:i<lj
        ·have q1:(i:Int)<(lj:Int):=by omega
         have q0:(0:Int)≤(i:Int):=by omega
         obtain ⟨bz,oz,eaj,hcz⟩:∃bz oz,aj=some ⟨bz,oz,none⟩∧wr.cell? ⟨bz,oz+i,none⟩=some (.int .i64 (Lj.getD i 0)):=by
          obtain ⟨a',c',e,h⟩:=HZj.out wr hBwi.out;injection e with e1 e2 e3;subst e1;exact h i (by rw [HLj.out];exact hil)
         subst eaj;have hiL:i<Lj.length:=by rw [HLj.out];exact hil
         obtain ⟨X,hX⟩:∃X,X=Lj.getD i 0:=⟨_,rfl⟩;have hXm:X∈Lj:=by rw [hX,List.getD_eq_getElem?_getD,List.getElem?_eq_getElem hiL];exact List.getElem_mem hiL
         rw [← hX] at hcz;have hwf:=HPF.out.wfC X (HSub.out X hXm);obtain ⟨wm,hrun,hSB,hgr⟩:=hSi.out.put X hwf (by have:=hleni.out;omega);have HTk:Hid (∀x,x∈putK kt X↔x∈ks∨x∈Lj.take (i+1)):=fun x=>by
          rw [Zkh,hmemi.out x,List.take_add_one,List.getElem?_eq_getElem hiL];have:Lj[i]=X:=by rw [hX,List.getD_eq_getElem?_getD,List.getElem?_eq_getElem hiL];rfl
          simp only [Option.toList_some,List.mem_append,List.mem_singleton,this,or_assoc]
         have HSB:=Za hSB;have HGr:=Za hgr;have HPl:Hid ((putK kt X).length≤j * 70000+(i+1)):=by
          have:=hleni.out;show _≤_;unfold putK;split
          ·omega
          ·simp only [List.length_append,List.length_singleton];omega
         clear hX hXm hwf hSB hgr hiL
         go_wp2_with (refine Zfb rfl _ _ _ _ rfl _ _ _ rfl rfl rfl hrun ?_)
         exact ⟨⟨i+1,putK kt X,by omega,by go_num,HSB.out,Yea hndi.out X,HTk.out,HPl.out,Ze hBwi.out HGr.out (by rw [HBM.out];exact Nat.le_refl _),hBki.out.of_block (HGr.out.block _ hBki.out.lt (by intro e;injection e with e;omega))⟩,by simp [intOf];omega⟩
        ·obtain rfl:i=lj:=by omega
         have q1: ¬(i:Int)<(i:Int):=by omega
         have HMe:Hid (∀x,x∈kt↔(0<j+1∧x∈LA)∨(1<j+1∧x∈LB)):=fun x=>by
          rw [hmemi.out x,List.take_of_length_le (by rw [HLj.out];exact Nat.le_refl _),hmem.out x,HMm.out x]
         have HLe:Hid (kt.length≤(j+1) * 70000):=by have:=hleni.out;show _≤_;omega
         go_wp2
         exact ⟨⟨j+1,kt,by omega,by go_num,hSi.out,hndi.out,HMe.out,HLe.out,hBwi.out,hBki.out⟩,by simp [intOf];omega⟩
      ·obtain rfl:j=2:=by omega
       have z1: ¬(2:Int)<2:=by omega
       have HMe:Hid (∀x,x∈ks↔x∈LC):=fun x=>by rw [hmem.out x,HPF.out.mem x];simp
       have hkl:ks.length=l3:=by rw [← hln.2.2.1];exact Zvh hnd.out (Ydr HPF.out.riseC) HMe.out
       have HKL:Hid (ks.length=l3):=hkl;have hlm:∀ty,(Builtin.len_ #[36] ty #[.map (some bm)]).run Tryz.prog wr=.ok (.int .i64 (l3:Int)) wr:=fun ty=>by rw [← HKL.out];exact hS.out.len ty
       have hoc:(noc cs:Int)=(l3:Int)+(l4:Int):=by have h1:=HPF.out.sum;have h2:=hln.2.2.1;have h3:=hln.2.2.2.1;omega
       have hKO:=KO.out _ hBw.out;rw [hoc] at hKO;have HKO:=Za hKO;have yy:=KG.out _ hBw.out;have hb3:=hln.2.2.2.2.2.2.1;have hb4:=hln.2.2.2.2.2.2.2;have wsum:IntKind.i64.wrap ((l3:Int)+(l4:Int))=(l3:Int)+(l4:Int):=by rw [IntKind.wrap_i64];omega
       clear hkl hoc hKO hmem hlen hBk hnd
       go_wp2_with (go_at_call 10;refine HKO.out.mono ?_;rintro e w10 ⟨rfl,b10⟩;have HB10:=Za (Zb hBw.out b10);have HS10:=Za (hS.out.grow b10);clear b10)
       go_loopw [24] (fun iv wr=>∃i:Nat,i≤l3∧iv=.int .i64 (i:Int)∧Hid (SB wr bm ks)∧Hid (Kb w7 wr)) (fun iv _=>l3-(intOf iv).toNat)
       case atStart=>exact ⟨0,by omega,rfl,HS10.out,HB10.out⟩
       case round=>
        obtain ⟨i,hi,rfl,hSi,hBi⟩:=hrel
        by_cases hil:i<l3
        ·have q1:(i:Int)<(l3:Int):=by omega
         have q0:(0:Int)≤(i:Int):=by omega
         have hL3:LC.length=l3:=HLn.out.2.2.1;obtain ⟨b3,o3,ea3,hc3⟩:∃b3 o3,a3=some ⟨b3,o3,none⟩∧∀p,p<l3→∀w',Kb w7 w'→w'.cell? ⟨b3,o3+p,none⟩=some (.int .i64 (LC.getD p 0)):=Yfw HZ3.out hL3 (by omega);have HC3:=Za hc3;subst ea3;obtain ⟨X,hX⟩:∃X,X=LC.getD i 0:=⟨_,rfl⟩;have hXm:X∈LC:=by rw [hX,List.getD_eq_getElem?_getD,List.getElem?_eq_getElem (by omega)];exact List.getElem_mem (by omega)
         have HLK:Hid (∀w',Kb wr w'→(Instr.lookup 36 (.map (some bm)) (.int .i64 X) false).run Tryz.prog w'=.ok (.bool true) w'):=fun w' h=>by
          have:=(hSi.out.grow h).look (HPF.out.wfC X hXm);rwa [decide_eq_true ((HMe.out X).2 hXm)] at this
         have HCX:Hid (∀w',Kb wr w'→w'.cell? ⟨b3,o3+i,none⟩=some (.int .i64 X)):=fun w' h=>by rw [hX];exact HC3.out i hil w' (Zb hBi.out h)
         by_cases hi0:0<i
         ·have q2:(0:Int)<(i:Int):=by omega
          obtain ⟨Y,hY⟩:∃Y,Y=LC.getD (i-1) 0:=⟨_,rfl⟩;have hYX:Y<X:=by rw [hX,hY];exact Zuk HPF.out.riseC (by omega) (by omega)
          have q3: ¬X≤Y:=by omega
          have HCY:Hid (∀w',Kb wr w'→w'.cell? ⟨b3,o3+(i-1),none⟩=some (.int .i64 Y)):=fun w' h=>by rw [hY];exact HC3.out (i-1) (by omega) w' (Zb hBi.out h)
          have q4:IntKind.i64.wrap ((i:Int)-1)=(i:Int)-1:=by rw [IntKind.wrap_i64];omega
          have q5:(0:Int)≤(i:Int)-1:=by omega
          have q8: ¬(i:Int)<1:=by omega
          have q6:(i:Int)-1<(l3:Int):=by omega
          have q7:((i:Int)-1).toNat=i-1:=by omega
          clear hX hXm hY hYX hc3;go_wp2
          refine wp_region_held_drew (S:=fun w'=>Kb wr w') (by kernel_rfl) ((Below.refl _ _).drew) (fun hHeld=>?_);refine tkp 0 (.map (some bm)) hHeld ?_;simp only [zq];refine tkp 1 (.slice (some ⟨b3,o3,none⟩) l3 c3) hHeld ?_;simp only [zq];refine tkp 2 (.int .i64 (i:Int)) hHeld ?_;simp only [zq];refine tkp 3 (.pointer (some ⟨b3,o3+i,none⟩)) hHeld ?_;simp only [zq];refine tkg 4 (.int .i64 X) rfl (Or.inl ⟨by rfl,fun w hS=>by (have r1:=HCX.out _ hS;go_simp)⟩) hHeld ?_;simp only [zq];refine tkg 5 (.bool true) rfl (Or.inl ⟨by rfl,fun w hS=>by (have r1:=HLK.out _ hS;go_simp)⟩) hHeld ?_;simp only [zq];refine tkp 6 (.bool false) hHeld ?_;simp only [zq];refine tkp 7 (.bool false) hHeld ?_;simp only [zq];refine tkp 8 (.int .i64 (i:Int)) hHeld ?_;simp only [zq];refine tkp 9 (.bool true) hHeld ?_;simp only [zq];refine tkp 10 (.bool true) hHeld ?_;simp only [zq];refine tkp 11 (.slice (some ⟨b3,o3,none⟩) l3 c3) hHeld ?_;simp only [zq];refine tkp 12 (.int .i64 (i:Int)) hHeld ?_;simp only [zq];refine tkp 13 (.pointer (some ⟨b3,o3+i,none⟩)) hHeld ?_;simp only [zq];refine tkg 14 (.int .i64 X) rfl (Or.inl ⟨by rfl,fun w hS=>by (have r1:=HCX.out _ hS;go_simp)⟩) hHeld ?_;simp only [zq];refine tkp 15 (.slice (some ⟨b3,o3,none⟩) l3 c3) hHeld ?_;simp only [zq];refine tkp 16 (.int .i64 (i:Int)) hHeld ?_;simp only [zq];refine tkp 17 (.int .i64 ((i:Int)-1)) hHeld ?_;simp only [zq];refine tkp 18 (.pointer (some ⟨b3,o3+(i-1),none⟩)) hHeld ?_;simp only [zq];refine tkg 19 (.int .i64 Y) rfl (Or.inl ⟨by rfl,fun w hS=>by (have r1:=HCY.out _ hS;go_simp)⟩) hHeld ?_;simp only [zq];refine tkp 20 (.bool false) hHeld ?_;simp only [zq];refine tkp 21 (.bool false) hHeld ?_;simp only [zq];refine tkp 22 (.bool false) hHeld ?_;simp only [zq];refine wpAnyH_done (by kernel_rfl) ?_ _;have HH:=Za hHeld;clear hHeld;go_wp2
          exact ⟨⟨i+1,by omega,by go_num,hSi.out.grow HH.out,Zb hBi.out HH.out⟩,by simp [intOf];omega⟩
         ·have q2: ¬(0:Int)<(i:Int):=by omega
          clear hX hXm hc3;go_wp2
          refine wp_region_held_drew (S:=fun w'=>Kb wr w') (by kernel_rfl) ((Below.refl _ _).drew) (fun hHeld=>?_);refine tkp 0 (.map (some bm)) hHeld ?_;simp only [zq];refine tkp 1 (.slice (some ⟨b3,o3,none⟩) l3 c3) hHeld ?_;simp only [zq];refine tkp 2 (.int .i64 (i:Int)) hHeld ?_;simp only [zq];refine tkp 3 (.pointer (some ⟨b3,o3+i,none⟩)) hHeld ?_;simp only [zq];refine tkg 4 (.int .i64 X) rfl (Or.inl ⟨by rfl,fun w hS=>by (have r1:=HCX.out _ hS;go_simp)⟩) hHeld ?_;simp only [zq];refine tkg 5 (.bool true) rfl (Or.inl ⟨by rfl,fun w hS=>by (have r1:=HLK.out _ hS;go_simp)⟩) hHeld ?_;simp only [zq];refine tkp 6 (.bool false) hHeld ?_;simp only [zq];refine tkp 7 (.bool false) hHeld ?_;simp only [zq];refine tkp 8 (.int .i64 (i:Int)) hHeld ?_;simp only [zq];refine tkp 9 (.bool false) hHeld ?_;simp only [zq];refine tkp 10 (.bool false) hHeld ?_;simp only [zq];refine tks 11 hHeld ?_;simp only [zq];refine tks 12 hHeld ?_;simp only [zq];refine tks 13 hHeld ?_;simp only [zq];refine tks 14 hHeld ?_;simp only [zq];refine tks 15 hHeld ?_;simp only [zq];refine tks 16 hHeld ?_;simp only [zq];refine tks 17 hHeld ?_;simp only [zq];refine tks 18 hHeld ?_;simp only [zq];refine tks 19 hHeld ?_;simp only [zq];refine tks 20 hHeld ?_;simp only [zq];refine tkp 21 (.bool false) hHeld ?_;simp only [zq];refine tkp 22 (.bool false) hHeld ?_;simp only [zq];refine wpAnyH_done (by kernel_rfl) ?_ _;have HH:=Za hHeld;clear hHeld;go_wp2
          exact ⟨⟨i+1,by omega,by go_num,hSi.out.grow HH.out,Zb hBi.out HH.out⟩,by simp [intOf];omega⟩
        ·have q1: ¬(i:Int)<(l3:Int):=by omega
         go_wp2
         go_loopw [25] (fun iv wr=>∃i:Nat,i≤l4∧iv=.int .i64 (i:Int)∧Hid (SB wr bm ks)∧Hid (Kb w7 wr)) (fun iv _=>l4-(intOf iv).toNat)
         case atStart=>exact ⟨0,by omega,rfl,hSi.out,hBi.out⟩
         case round=>
          obtain ⟨i4,hi4,rfl,hS4,hB4⟩:=hrel
          by_cases hil4:i4<l4
          ·have q11:(i4:Int)<(l4:Int):=by omega
           have q10:(0:Int)≤(i4:Int):=by omega
           have hL4:LD.length=l4:=HLn.out.2.2.2.1;obtain ⟨b4,o4,ea4,hc4⟩:∃b4 o4,a4=some ⟨b4,o4,none⟩∧∀p,p<l4→∀w',Kb w7 w'→w'.cell? ⟨b4,o4+p,none⟩=some (.int .i64 (LD.getD p 0)):=Yfw HZ4.out hL4 (by omega);have HC4:=Za hc4;subst ea4;obtain ⟨X,hX⟩:∃X,X=LD.getD i4 0:=⟨_,rfl⟩;have hXm:X∈LD:=by rw [hX,List.getD_eq_getElem?_getD,List.getElem?_eq_getElem (by omega)];exact List.getElem_mem (by omega)
           obtain ⟨hxa,hxb,hxc⟩:=HPF.out.lost X hXm;have HLK:Hid (∀w',Kb wr w'→(Instr.lookup 36 (.map (some bm)) (.int .i64 X) false).run Tryz.prog w'=.ok (.bool false) w'):=fun w' h=>by
            have:=(hS4.out.grow h).look (HPF.out.wfD X hXm);rwa [decide_eq_false (fun q=>((HPF.out.mem X).1 ((HMe.out X).1 q)).elim hxa hxb)] at this
           have HHas:Hid (Kr wr 11 #[.pointer (some ⟨g,0,none⟩),.int .i64 X] (.bool true)):=fun w' h=>by
            have:=Zwh (KA.out _ (Zb hB4.out h)).vw X;rwa [decide_eq_true hxc] at this
           have HGc:Hid (∀w',Kb wr w'→w'.cell? ⟨gc,0,none⟩=some (.pointer (some ⟨g,0,none⟩))):=fun w' h=>KG.out _ (Zb hB4.out h)
           have HCX:Hid (∀w',Kb wr w'→w'.cell? ⟨b4,o4+i4,none⟩=some (.int .i64 X)):=fun w' h=>by rw [hX];exact HC4.out i4 hil4 w' (Zb hB4.out h)
           by_cases hi0:0<i4
           ·have q2:(0:Int)<(i4:Int):=by omega
            obtain ⟨Y,hY⟩:∃Y,Y=LD.getD (i4-1) 0:=⟨_,rfl⟩;have hYX:Y<X:=by rw [hX,hY];exact Zuk HPF.out.riseD (by omega) (by omega)
            have q3: ¬X≤Y:=by omega
            have HCY:Hid (∀w',Kb wr w'→w'.cell? ⟨b4,o4+(i4-1),none⟩=some (.int .i64 Y)):=fun w' h=>by rw [hY];exact HC4.out (i4-1) (by omega) w' (Zb hB4.out h)
            have q4:IntKind.i64.wrap ((i4:Int)-1)=(i4:Int)-1:=by rw [IntKind.wrap_i64];omega
            have q5:(0:Int)≤(i4:Int)-1:=by omega
            have q8: ¬(i4:Int)<1:=by omega
            have q6:(i4:Int)-1<(l4:Int):=by omega
            have q7:((i4:Int)-1).toNat=i4-1:=by omega
            clear hX hXm hY hYX hc4 hxa hxb hxc;go_wp2
            refine wp_region_held_drew (S:=fun w'=>Kb wr w') (by kernel_rfl) ((Below.refl _ _).drew) (fun hHeld=>?_);refine tkp 0 (.map (some bm)) hHeld ?_;simp only [zq];refine tkp 1 (.slice (some ⟨b4,o4,none⟩) l4 c4) hHeld ?_;simp only [zq];refine tkp 2 (.int .i64 (i4:Int)) hHeld ?_;simp only [zq];refine tkp 3 (.pointer (some ⟨b4,o4+i4,none⟩)) hHeld ?_;simp only [zq];refine tkg 4 (.int .i64 X) rfl (Or.inl ⟨by rfl,fun w hS=>by (have r1:=HCX.out _ hS;go_simp)⟩) hHeld ?_;simp only [zq];refine tkg 5 (.bool false) rfl (Or.inl ⟨by rfl,fun w hS=>by (have r1:=HLK.out _ hS;go_simp)⟩) hHeld ?_;simp only [zq];refine tkp 6 (.bool false) hHeld ?_;simp only [zq];refine tkp 7 (.pointer (some ⟨gc,0,none⟩)) hHeld ?_;simp only [zq];refine tkp 8 (.pointer (some ⟨gc,0,none⟩)) hHeld ?_;simp only [zq];refine tkp 9 (.pointer (some ⟨gc,0,none⟩)) hHeld ?_;simp only [zq];refine tkg 10 (.pointer (some ⟨g,0,none⟩)) rfl (Or.inl ⟨by rfl,fun w hS=>by (have r1:=HGc.out _ hS;go_simp)⟩) hHeld ?_;simp only [zq];refine tkp 11 (.slice (some ⟨b4,o4,none⟩) l4 c4) hHeld ?_;simp only [zq];refine tkp 12 (.int .i64 (i4:Int)) hHeld ?_;simp only [zq];refine tkp 13 (.pointer (some ⟨b4,o4+i4,none⟩)) hHeld ?_;simp only [zq];refine tkg 14 (.int .i64 X) rfl (Or.inl ⟨by rfl,fun w hS=>by (have r1:=HCX.out _ hS;go_simp)⟩) hHeld ?_;simp only [zq];refine wpAnyH_ready (rs:=[15]) (by kernel_rfl) (by simp) ?_;refine AllReadyH.cons rfl (fun KQ hK=>?_) AllReadyH.nil;go_simp;refine (HHas.out _ hHeld).mono ?_;rintro e z1 ⟨rfl,s1⟩;refine hK.out _ _ (Zb hHeld s1) (fun hHeld=>?_);clear hK KQ;refine tkp 16 (.bool false) hHeld ?_;simp only [zq];refine tkp 17 (.bool false) hHeld ?_;simp only [zq];refine tkp 18 (.bool false) hHeld ?_;simp only [zq];refine tkp 19 (.int .i64 (i4:Int)) hHeld ?_;simp only [zq];refine tkp 20 (.bool true) hHeld ?_;simp only [zq];refine tkp 21 (.bool true) hHeld ?_;simp only [zq];refine tkp 22 (.slice (some ⟨b4,o4,none⟩) l4 c4) hHeld ?_;simp only [zq];refine tkp 23 (.int .i64 (i4:Int)) hHeld ?_;simp only [zq];refine tkp 24 (.pointer (some ⟨b4,o4+i4,none⟩)) hHeld ?_;simp only [zq];refine tkg 25 (.int .i64 X) rfl (Or.inl ⟨by rfl,fun w hS=>by (have r1:=HCX.out _ hS;go_simp)⟩) hHeld ?_;simp only [zq];refine tkp 26 (.slice (some ⟨b4,o4,none⟩) l4 c4) hHeld ?_;simp only [zq];refine tkp 27 (.int .i64 (i4:Int)) hHeld ?_;simp only [zq];refine tkp 28 (.int .i64 ((i4:Int)-1)) hHeld ?_;simp only [zq];refine tkp 29 (.pointer (some ⟨b4,o4+(i4-1),none⟩)) hHeld ?_;simp only [zq];refine tkg 30 (.int .i64 Y) rfl (Or.inl ⟨by rfl,fun w hS=>by (have r1:=HCY.out _ hS;go_simp)⟩) hHeld ?_;simp only [zq];refine tkp 31 (.bool false) hHeld ?_;simp only [zq];refine tkp 32 (.bool false) hHeld ?_;simp only [zq];refine tkp 33 (.bool false) hHeld ?_;simp only [zq];refine wpAnyH_done (by kernel_rfl) ?_ _;have HH:=Za hHeld;clear hHeld;go_wp2
            exact ⟨⟨i4+1,by omega,by go_num,hS4.out.grow HH.out,Zb hB4.out HH.out⟩,by simp [intOf];omega⟩
           ·have q2: ¬(0:Int)<(i4:Int):=by omega
            clear hX hXm hc4 hxa hxb hxc;go_wp2
            refine wp_region_held_drew (S:=fun w'=>Kb wr w') (by kernel_rfl) ((Below.refl _ _).drew) (fun hHeld=>?_);refine tkp 0 (.map (some bm)) hHeld ?_;simp only [zq];refine tkp 1 (.slice (some ⟨b4,o4,none⟩) l4 c4) hHeld ?_;simp only [zq];refine tkp 2 (.int .i64 (i4:Int)) hHeld ?_;simp only [zq];refine tkp 3 (.pointer (some ⟨b4,o4+i4,none⟩)) hHeld ?_;simp only [zq];refine tkg 4 (.int .i64 X) rfl (Or.inl ⟨by rfl,fun w hS=>by (have r1:=HCX.out _ hS;go_simp)⟩) hHeld ?_;simp only [zq];refine tkg 5 (.bool false) rfl (Or.inl ⟨by rfl,fun w hS=>by (have r1:=HLK.out _ hS;go_simp)⟩) hHeld ?_;simp only [zq];refine tkp 6 (.bool false) hHeld ?_;simp only [zq];refine tkp 7 (.pointer (some ⟨gc,0,none⟩)) hHeld ?_;simp only [zq];refine tkp 8 (.pointer (some ⟨gc,0,none⟩)) hHeld ?_;simp only [zq];refine tkp 9 (.pointer (some ⟨gc,0,none⟩)) hHeld ?_;simp only [zq];refine tkg 10 (.pointer (some ⟨g,0,none⟩)) rfl (Or.inl ⟨by rfl,fun w hS=>by (have r1:=HGc.out _ hS;go_simp)⟩) hHeld ?_;simp only [zq];refine tkp 11 (.slice (some ⟨b4,o4,none⟩) l4 c4) hHeld ?_;simp only [zq];refine tkp 12 (.int .i64 (i4:Int)) hHeld ?_;simp only [zq];refine tkp 13 (.pointer (some ⟨b4,o4+i4,none⟩)) hHeld ?_;simp only [zq];refine tkg 14 (.int .i64 X) rfl (Or.inl ⟨by rfl,fun w hS=>by (have r1:=HCX.out _ hS;go_simp)⟩) hHeld ?_;simp only [zq];refine wpAnyH_ready (rs:=[15]) (by kernel_rfl) (by simp) ?_;refine AllReadyH.cons rfl (fun KQ hK=>?_) AllReadyH.nil;go_simp;refine (HHas.out _ hHeld).mono ?_;rintro e z1 ⟨rfl,s1⟩;refine hK.out _ _ (Zb hHeld s1) (fun hHeld=>?_);clear hK KQ;refine tkp 16 (.bool false) hHeld ?_;simp only [zq];refine tkp 17 (.bool false) hHeld ?_;simp only [zq];refine tkp 18 (.bool false) hHeld ?_;simp only [zq];refine tkp 19 (.int .i64 (i4:Int)) hHeld ?_;simp only [zq];refine tkp 20 (.bool false) hHeld ?_;simp only [zq];refine tkp 21 (.bool false) hHeld ?_;simp only [zq];refine tks 22 hHeld ?_;simp only [zq];refine tks 23 hHeld ?_;simp only [zq];refine tks 24 hHeld ?_;simp only [zq];refine tks 25 hHeld ?_;simp only [zq];refine tks 26 hHeld ?_;simp only [zq];refine tks 27 hHeld ?_;simp only [zq];refine tks 28 hHeld ?_;simp only [zq];refine tks 29 hHeld ?_;simp only [zq];refine tks 30 hHeld ?_;simp only [zq];refine tks 31 hHeld ?_;simp only [zq];refine tkp 32 (.bool false) hHeld ?_;simp only [zq];refine tkp 33 (.bool false) hHeld ?_;simp only [zq];refine wpAnyH_done (by kernel_rfl) ?_ _;have HH:=Za hHeld;clear hHeld;go_wp2
            exact ⟨⟨i4+1,by omega,by go_num,hS4.out.grow HH.out,Zb hB4.out HH.out⟩,by simp [intOf];omega⟩
          ·have q11: ¬(i4:Int)<(l4:Int):=by omega
           go_wp2
           go_ret;exact ⟨rfl,KB.out _ hB4.out⟩
    ·have hE3:auE (cot cs) (cat cs) [one,two]=vRt true (cot cs two) (cat cs two) two:=by rw [Zoi,if_pos g1]
     have HR1:Hid (∀w' u,Au w' (.pointer (some ⟨g,0,none⟩)) cs→Zs w' u [one]→Kc 8 #[.pointer (some ⟨g,0,none⟩),u] w' fun e w''=>∃a l c,e=.returned (.tuple #[.slice a l c,.int .i64 0])∧Below w'.heap.size w' w''):=fun w' u A hz=>by have:=Zhb A hz;rwa [g1] at this
     have HR2:Hid (∀w' u,Au w' (.pointer (some ⟨g,0,none⟩)) cs→Zs w' u [two]→Kc 8 #[.pointer (some ⟨g,0,none⟩),u] w' fun e w''=>∃a l c,e=.returned (.tuple #[.slice a l c,.int .i64 (vRt true (cot cs two) (cat cs two) two)])∧Below w'.heap.size w' w''):=fun w' u A hz=>Zhb A hz
     have HR3:Hid (∀w' u,Au w' (.pointer (some ⟨g,0,none⟩)) cs→Zs w' u [one,two]→Kc 8 #[.pointer (some ⟨g,0,none⟩),u] w' fun e w''=>e=.returned (.tuple #[.slice none 0 0,.int .i64 (vRt true (cot cs two) (cat cs two) two)])∧Below w'.heap.size w' w''):=fun w' u A hz=>by have:=Znm (Zeg A.vw hz (by rw [hE3];exact g2)) (by rw [hE3];exact g2);rwa [hE3] at this
     have HLo:Hid (∀w' u,Au w' (.pointer (some ⟨g,0,none⟩)) cs→Zs w' u [one,two]→Kc 9 #[.pointer (some ⟨g,0,none⟩),u] w' fun e w''=>e=.returned (.tuple #[.slice none 0 0,.int .i64 (vRt true (cot cs two) (cat cs two) two)])∧Below w'.heap.size w' w''):=fun w' u A hz=>by have:=Zpm (Zeg A.vw hz (by rw [hE3];exact g2)) (by rw [hE3];exact g2);rwa [hE3] at this
     generalize vRt true (cot cs two) (cat cs two) two=E at *;have e1:(E == 0)=false:=by simp [g2]
     have e2:(E != 0)=true:=by simp [g2]
     clear hE3 g1
     go_wp2_with (first
      |(go_at_call 9;have mk:=mk_3;clear mk;refine (HLo.out _ _ (KA.out _ (Zc _ _)) (Zfw _ _ _)).mono ?_;rintro e w7 ⟨rfl,qq⟩;have hq:=Zb (Zc _ _) qq;replace KA:=Za (KA.out.step hq);replace KG:=Za (KG.out.step hq);replace KB:=Za (KB.out.step hq);replace KO:=Za (KO.out.step hq);have mk_4:Hid True:=trivial;clear hq qq;have yy3:=KG.out.now)
      |(go_at_call 8;have mk:=mk_2;clear mk;refine (HR3.out _ _ (KA.out _ (Zc _ _)) (Zfw _ _ _)).mono ?_;rintro e w6 ⟨rfl,qq⟩;have hq:=Zb (Zc _ _) qq;replace KA:=Za (KA.out.step hq);replace KG:=Za (KG.out.step hq);replace KB:=Za (KB.out.step hq);replace KO:=Za (KO.out.step hq);have mk_3:Hid True:=trivial;clear hq qq;have yy2:=KG.out.now)
      |(go_at_call 8;have mk:=mk_1;clear mk;refine (HR2.out _ _ (KA.out _ (Zc _ _)) (Zfx _ _)).mono ?_;rintro e w5 ⟨a2,l2,c2,rfl,qq⟩;have hq:=Zb (Zc _ _) qq;replace KA:=Za (KA.out.step hq);replace KG:=Za (KG.out.step hq);replace KB:=Za (KB.out.step hq);replace KO:=Za (KO.out.step hq);have mk_2:Hid True:=trivial;clear hq qq;have yy1:=KG.out.now)
      |(go_at_call 8;refine (HR1.out _ _ (KA.out _ (Zc _ _)) (Zfx _ _)).mono ?_;rintro e w4 ⟨a1,l1,c1,rfl,qq⟩;have hq:=Zb (Zc _ _) qq;replace KA:=Za (KA.out.step hq);replace KG:=Za (KG.out.step hq);replace KB:=Za (KB.out.step hq);replace KO:=Za (KO.out.step hq);have mk_1:Hid True:=trivial;clear hq qq;have yy0:=KG.out.now))
     go_ret;exact ⟨rfl,KB.out.now⟩
   ·have HR1:Hid (∀w' u,Au w' (.pointer (some ⟨g,0,none⟩)) cs→Zs w' u [one]→Kc 8 #[.pointer (some ⟨g,0,none⟩),u] w' fun e w''=>∃a l c,e=.returned (.tuple #[.slice a l c,.int .i64 (vRt true (cot cs one) (cat cs one) one)])∧Below w'.heap.size w' w''):=fun w' u A hz=>Zhb A hz
    have hE3:auE (cot cs) (cat cs) [one,two]=vRt true (cot cs one) (cat cs one) one:=by rw [Zoi,if_neg g1]
    have HR2:Hid (∀w' u,Au w' (.pointer (some ⟨g,0,none⟩)) cs→Zs w' u [two]→Kc 8 #[.pointer (some ⟨g,0,none⟩),u] w' fun e w''=>∃a l c,e=.returned (.tuple #[.slice a l c,.int .i64 (vRt true (cot cs two) (cat cs two) two)])∧Below w'.heap.size w' w''):=fun w' u A hz=>Zhb A hz
    have HR3:Hid (∀w' u,Au w' (.pointer (some ⟨g,0,none⟩)) cs→Zs w' u [one,two]→Kc 8 #[.pointer (some ⟨g,0,none⟩),u] w' fun e w''=>e=.returned (.tuple #[.slice none 0 0,.int .i64 (vRt true (cot cs one) (cat cs one) one)])∧Below w'.heap.size w' w''):=fun w' u A hz=>by have:=Znm (Zeg A.vw hz (by rw [hE3];exact g1)) (by rw [hE3];exact g1);rwa [hE3] at this
    have HLo:Hid (∀w' u,Au w' (.pointer (some ⟨g,0,none⟩)) cs→Zs w' u [one,two]→Kc 9 #[.pointer (some ⟨g,0,none⟩),u] w' fun e w''=>e=.returned (.tuple #[.slice none 0 0,.int .i64 (vRt true (cot cs one) (cat cs one) one)])∧Below w'.heap.size w' w''):=fun w' u A hz=>by have:=Zpm (Zeg A.vw hz (by rw [hE3];exact g1)) (by rw [hE3];exact g1);rwa [hE3] at this
    generalize vRt true (cot cs one) (cat cs one) one=E at *;generalize vRt true (cot cs two) (cat cs two) two=F at *;have e1:(E == 0)=false:=by simp [g1]
    have e2:(E != 0)=true:=by simp [g1]
    clear hE3
    go_wp2_with (first
     |(go_at_call 9;have mk:=mk_3;clear mk;refine (HLo.out _ _ (KA.out _ (Zc _ _)) (Zfw _ _ _)).mono ?_;rintro e w7 ⟨rfl,qq⟩;have hq:=Zb (Zc _ _) qq;replace KA:=Za (KA.out.step hq);replace KG:=Za (KG.out.step hq);replace KB:=Za (KB.out.step hq);replace KO:=Za (KO.out.step hq);have mk_4:Hid True:=trivial;clear hq qq;have yy3:=KG.out.now)
     |(go_at_call 8;have mk:=mk_2;clear mk;refine (HR3.out _ _ (KA.out _ (Zc _ _)) (Zfw _ _ _)).mono ?_;rintro e w6 ⟨rfl,qq⟩;have hq:=Zb (Zc _ _) qq;replace KA:=Za (KA.out.step hq);replace KG:=Za (KG.out.step hq);replace KB:=Za (KB.out.step hq);replace KO:=Za (KO.out.step hq);have mk_3:Hid True:=trivial;clear hq qq;have yy2:=KG.out.now)
     |(go_at_call 8;have mk:=mk_1;clear mk;refine (HR2.out _ _ (KA.out _ (Zc _ _)) (Zfx _ _)).mono ?_;rintro e w5 ⟨a2,l2,c2,rfl,qq⟩;have hq:=Zb (Zc _ _) qq;replace KA:=Za (KA.out.step hq);replace KG:=Za (KG.out.step hq);replace KB:=Za (KB.out.step hq);replace KO:=Za (KO.out.step hq);have mk_2:Hid True:=trivial;clear hq qq;have yy1:=KG.out.now)
     |(go_at_call 8;refine (HR1.out _ _ (KA.out _ (Zc _ _)) (Zfx _ _)).mono ?_;rintro e w4 ⟨a1,l1,c1,rfl,qq⟩;have hq:=Zb (Zc _ _) qq;replace KA:=Za (KA.out.step hq);replace KG:=Za (KG.out.step hq);replace KB:=Za (KB.out.step hq);replace KO:=Za (KO.out.step hq);have mk_1:Hid True:=trivial;clear hq qq;have yy0:=KG.out.now))
    go_ret;exact ⟨rfl,KB.out.now⟩
 ·have HL1:=Za (HLG.out true (by simp [hg]));clear HPL HLG hg;go_enter Tryz.func3,Tryz.ntmps3
  go_wp2_with (first
   |(go_at_call 5;refine HAW.out.mono ?_;rintro e w1 ⟨rfl,q1⟩;have HQ1:=Za q1;clear q1)
   |(go_at_call 6;refine (HL1.out _ HQ1.out).mono ?_;rintro e w2 ⟨rfl,q2⟩;have HQ2:=Za (Zb HQ1.out q2);clear q2))
  go_ret;exact ⟨rfl,HQ2.out⟩
end Go.Proofs.YtlclabbnpjobgaaGreatDoor
