/- The document's Drop, as a contract. -/
import Derived.Test.YtlclabbnpjobgaaGreatDoorAp39
namespace Go.Proofs.YtlclabbnpjobgaaGreatDoor
variable {E:List Ent}
variable {K bs:Lq}
variable {cs cs' cs0 cs2:Lz}
variable {d g m n r room s top:Nat}
variable {fr fr' fr2 st:List Nat}
variable {ss:List Sp}
variable {vf vp:Value}
variable {w w' w1 w2:World}
set_option maxHeartbeats 2000000
set_option maxRecDepth 20000
open Go.RowKit
theorem Znn (h:Rs w g vp vf room ss fr) (q:Int) (ho:(sat ss q).own=0):Kc 56 #[.pointer (some ⟨g,0,none⟩),.int .i64 q] w fun e w'=>e=.returned (.tuple #[.int .i64 0,.int .i64 7])∧Kb w w':=by
 have c0:=h.c0;have HH:=Za (Zbr h q);have HA:=Za (Zbc h q);have hf:=Zmg (Zbz h q);rw [ho] at hf
 by_cases hk:(sat ss q).kind=0
 ·rw [show decide ((sat ss q).kind≠0)=false by simp [hk]] at HH;clear h hk ho hf HA;go_enter Tryz.func56,Tryz.ntmps56
  go_wp2_with (first
   |(go_at_call 88;refine (Zz g _ c0).mono ?_;rintro e w' ⟨rfl,hx⟩;rw [hx];clear hx w')
   |(go_at_call 89;refine HH.out.mono ?_;rintro e w' ⟨rfl,hx⟩;rw [hx];clear hx w'))
  go_ret2;exact ⟨rfl,Below.refl _ _⟩
 ·rw [show decide ((sat ss q).kind≠0)=true by simp [hk]] at HH;generalize (sz7 (sat ss q)).toArray=X at HA hf;clear h hk ho;go_enter Tryz.func56,Tryz.ntmps56
  go_wp2_with (first
   |(go_at_call 88;refine (Zz g _ c0).mono ?_;rintro e w' ⟨rfl,hx⟩;rw [hx];clear hx w')
   |(go_at_call 89;refine HH.out.mono ?_;rintro e w' ⟨rfl,hx⟩;rw [hx];clear hx w')
   |(go_at_call 94;refine HA.out.mono ?_;rintro e w1 ⟨rfl,b1⟩;have HB1:=Za b1;clear b1))
  go_ret2;exact ⟨rfl,HB1.out⟩
theorem Zup (h:Rs w g vp vf room ss fr) (hr:Rel7 cs [] [] ss) (hW:Wf cs []) (i:Nat) (ho:0<own cs [] i) (hM:∀j,cc cs j≤1073741824) (hF:fr.length+noc cs≤65536) (R:Run cs fr [i+1] cs' fr' n):Kc 56 #[.pointer (some ⟨g,0,none⟩),.int .i64 ((i:Int)+1)] w fun e w'=>e=.returned (.tuple #[.int .i64 (n:Int),.int .i64 0])∧∃ss',Rel7 cs' [] [] ss'∧RT7 w g (rsB g vp vf ss) room ss' fr' w':=by
 have c0:=h.c0;have hc:0<cc cs i:=by
  have:=hW.own i;omega
 have hil:i<ss.length:=by rw [hr.len];exact Zaw hc
 have hk:=(hr.inn hW i).2 hc;obtain ⟨p,hp,hr2⟩:=hr.hold hW ho hil;have hpb:p<1073741824:=by
  have h1:=hr.own i;have h2:=hW.own i;have h3:=hM i;omega
 have HH:=Za (Zbr h ((i:Int)+1));have HA:=Za (Zbc h ((i:Int)+1));rw [Zeb] at HH HA;rw [show decide ((spAt ss i).kind≠0)=true by simp [hk]] at HH;have hf:=Zmg (Zch h i);rw [hp] at hf;generalize (sz7 (spAt ss i)).toArray=X at HA hf;have HS:Hid (∀w',Kb w w'→Rs w' g vp vf room ss fr):=fun w' hb=>h.grow hb
 have HFR:Hid (∀wr vp' vf',Rs wr g vp' vf' room (ss.set i { spAt ss i with own:=p}) fr→Kc 95 #[.pointer (some ⟨g,0,none⟩),.int .i64 ((i:Int)+1)] wr fun e w'=>e=.returned (.int .i64 (n:Int))∧∃ss',Rel7 cs' [] [] ss'∧RT7 wr g (rsB g vp' vf' (ss.set i { spAt ss i with own:=p})) room ss' fr' w'):=fun wr vp' vf' hR=>Zri g room n cs cs' i [] _ fr fr' wr vp' vf' (hW.less i ho) hM hF hr2 hR R
 have HK:=Za hk;have HIL:=Za hil;have HP:=Za hp;obtain ⟨b,c,hvp,-⟩:=h.num i hil;subst hvp;obtain ⟨q,hq⟩:∃q:Int,q=(i:Int)+1:=⟨_,rfl⟩;rw [← hq] at HH HA HFR;rw [← hq];have h3:q-1=(i:Int):=by rw [hq];exact Int.add_sub_cancel _ _
 have hw2:wrap64 (p:Int)=(p:Int):=Go.IntWalk.wrap64_in _ (by omega);obtain ⟨nn,hnn⟩:∃nn,nn=ss.length:=⟨_,rfl⟩;have HNN:=Za hnn;rw [← hnn] at HS;rw [← hnn];have hin:i<nn:=by rw [hnn];exact hil
 have hpn: ¬((p:Int)+1=0):=by omega
 clear h hr hW ho hM hF R hc hil hk hp hr2 hpb hq hnn;go_enter Tryz.func56,Tryz.ntmps56
 go_wp2_with (first
  |(go_at_call 88;refine (Zz g _ c0).mono ?_;rintro e w' ⟨rfl,hx⟩;rw [hx];clear hx w')
  |(go_at_call 89;refine HH.out.mono ?_;rintro e w' ⟨rfl,hx⟩;rw [hx];clear hx w')
  |(go_at_call 94;refine HA.out.mono ?_;rintro e w1 ⟨rfl,b1⟩;have HR1:=Za (HS.out _ b1);have c2:=HR1.out.c2;obtain ⟨b9,c9,e9,k1,k2,k3,j0,j1,hw⟩:=HR1.out.num i HIL.out;rw [← HNN.out] at j1;injection e9 with e91 _ e93;injection e91 with e91;injection e91 with e91;subst e91;subst e93;rw [HP.out] at k1;have k4:=k3 (i * 39+37);have HB1:=Za b1;have HR2:=Za (HR1.out.setOwn i HK.out p);clear b1 k2 k3)
  |(go_at_call 95;refine (HFR.out _ _ _ HR2.out).mono ?_;rintro e w3 ⟨rfl,ss',rel',vp',vf',t1,t2,t3⟩))
 go_ret2;have hsub:=Zke (g:=g) (vp:=.slice (some ⟨b,0,none⟩) nn c) (vf:=vf) (s':={ spAt ss i with own:=p}) HIL.out rfl;have m1:Mod (rsB g (.slice (some ⟨b,0,none⟩) nn c) vf ss) w (w1.setCell ⟨b,i * 39+37,none⟩ (.int .i64 (p:Int))):=(Mod.of_below HB1.out _).trans' (Mod.setCell _ _ _ _ (Zq.2 (.inr (.inl rfl))));exact ⟨rfl,ss',rel',vp',vf',t1,m1.trans (fun k hk=>.inl (hsub k hk)) t2,(show New _ w _ from fun k hk=>.inl (hsub k hk)).trans m1.size t3⟩
theorem Yhe (h:Inv room (cs.map pl) fr) (hl:cs'.length=cs.length) (hc:∀i,cc cs' i=cc cs i) (hn:noc cs'=noc cs):Inv room (cs'.map pl) fr:=by
 refine ⟨h.r1,h.r2,by have:=h.len;rw [List.length_map] at *;omega,h.nod,fun s hs=>?_,?_,fun i=>?_⟩
 ·obtain ⟨a,b,c⟩:=h.free s hs;rw [Zae] at *;rw [List.length_map] at *;exact ⟨a,by omega,by rw [hc];exact c⟩
 ·have:=h.sum;rw [List.length_map] at *;unfold noc at hn;omega
 ·have:=h.most i;rw [Zae] at *;rw [hc];exact this
theorem Zpq (h:Inv room (cs.map pl) fr) (k:AbOf cs cs'):Inv room (cs'.map pl) fr:=Yhe h k.len k.cc k.noc
theorem Zvt (h:Inv room (cs.map pl) fr) (hf: ¬Full room cs fr) (x:Ce):Inv room ((tkC cs fr (1,x)).map pl) fr.dropLast:=by
 rcases Zeo cs fr with ⟨s,fr0,rfl,e1,e2⟩ | ⟨rfl,e1,e2⟩
 ·rw [e2,← map_set,List.dropLast_concat];exact h.takeFree (cz x)
 ·rw [e2,← Zpk];refine h.takeNew ?_ (cz x);rw [List.length_map];apply Nat.lt_of_not_le;exact fun q=>hf ⟨rfl,q⟩
theorem Yak (h:Inv room (cs.map pl) fr) {i:Nat} (hc:0<cc cs i) (hm:cc cs i<1073741824):Inv room ((moreC cs i).map pl) fr:=by
 unfold moreC;rw [← map_set];exact h.held (by rw [Zae];exact hc) (by omega) (by omega) _
theorem Yeo (r:Run cs fr st cs' fr' n) (h:Inv room (cs.map pl) fr):Inv room (cs'.map pl) fr':=by
 induction r with
 | done cs fr=>exact h
 | @keep cs fr i st cs' fr' n hc _ ih=>
  refine ih ?_;unfold lessC;rw [← map_set];have hm:=h.most i;rw [Zae] at hm;exact h.held (by rw [Zae];omega) (by omega) (by omega) _
 | @free cs fr i st cs' fr' n hc _ ih=>
  refine ih ?_;unfold freeC;refine Zpq (Zpq ?_ (Zfs _ _)) (Zfs _ _);rw [← map_set];exact h.drop (by rw [Zae];omega) _
theorem Zlz {l:Nat} (h:Inv room (cs.map pl) fr) (hf: ¬Full room cs fr) (hI:InnR cs fr d l r cs'):Inv room (cs'.map pl) fr.dropLast:=by
 obtain ⟨KF,_,rfl⟩:=hI;exact Zpq (Zpq (Zvt h hf _) (Zcg _ _)) (Zcg _ _)
theorem Inv.lenC (h:Inv room (cs.map pl) fr):cs.length≤room:=by have:=h.len;rwa [List.length_map] at this
theorem Inv.mostC (h:Inv room (cs.map pl) fr) (i:Nat):cc cs i≤1073741824:=by have:=h.most i;rwa [Zae] at this
theorem Inv.sumC (h:Inv room (cs.map pl) fr):fr.length+noc cs≤65536:=by
 have h1:=h.sum;have h2:=h.len;have h3:=h.r2;unfold noc;omega
def Hr (w0:World) (S:List Nat) (w:World) (q room:Nat) (cs:Lz) (fr:List Nat):Prop:=(∃ss,RT7 w0 q S room ss fr w∧Rel7 cs [] [] ss)∧Wf cs []∧Inv room (cs.map pl) fr
theorem Yhm (R:Rel7 cs [] [] ss):Full room ss fr↔Full room cs fr:=by
 unfold Full;rw [R.len]
section
variable {w0 w:World} {S:List Nat} {q room:Nat} {cs:Lz} {fr:List Nat}
theorem Hr.here (s:Rs w q vp vf room ss fr) (R:Rel7 cs [] [] ss) (W:Wf cs []) (I:Inv room (cs.map pl) fr):Hr w (rsB q vp vf ss) w q room cs fr:=⟨⟨ss,⟨vp,vf,s,Mod.refl _ _,New.refl _ _⟩,R⟩,W,I⟩
theorem Hr.mod (h:Hr w0 S w q room cs fr):Mod S w0 w:=by obtain ⟨⟨_,⟨_,_,_,m,_⟩,_⟩,_⟩:=h;exact m
theorem Hr.kq {P:World→Prop} (h:Hr w0 S w q room cs fr) (k:Kq S w0 P):P w:=k w h.mod
theorem Hr.wf (h:Hr w0 S w q room cs fr):Wf cs []:=h.2.1
theorem Hr.inv (h:Hr w0 S w q room cs fr):Inv room (cs.map pl) fr:=h.2.2
theorem Hr.frok (h:Hr w0 S w q room cs fr):FrOk cs fr:=Zcw h.inv
theorem Hr.grow (h:Hr w0 S w q room cs fr) (hb:Kb w w'):Hr w0 S w' q room cs fr:=by
 obtain ⟨⟨ss,⟨vp,vf,s,m,n⟩,R⟩,W⟩:=h;exact ⟨⟨ss,⟨vp,vf,s.grow hb,m.trans' (Mod.of_below hb S),n⟩,R⟩,W⟩
theorem Hr.from (h:Hr w0 S w q room cs fr):∃S',Hr w S' w q room cs fr∧New S w0 S'∧(∀P:World→Prop,Kq S w0 P→Kq S' w P)∧(∀k∈S',k<w.heap.size)∧∀w' cs' fr',Hr w S' w' q room cs' fr'→Hr w0 S w' q room cs' fr':=by
 obtain ⟨⟨ss,⟨vp,vf,s,m,n⟩,R⟩,W,I⟩:=h;refine ⟨rsB q vp vf ss,Hr.here s R W I,n,fun P k=>k.turn m n,s.lts,fun w' cs' fr' k=>⟨?_,k.2⟩⟩;obtain ⟨⟨ss',⟨vp',vf',s',m',n'⟩,R'⟩,_⟩:=k;exact ⟨ss',⟨vp',vf',s',m.trans n m',n.trans m.size n'⟩,R'⟩
theorem Hr.rebase (h:Hr w S w q room cs fr) (hb:Kb w w1):Hr w1 S w1 q room cs fr:=by
 obtain ⟨⟨ss,⟨vp,vf,s,m,n⟩,R⟩,W⟩:=h;refine ⟨⟨ss,⟨vp,vf,s.grow hb,Mod.refl _ _,fun k hk=>?_⟩,R⟩,W⟩;rcases n k hk with q | q
 ·exact .inl q
 ·have:=s.lts k hk;omega
theorem Hr.back (hb:Kb w w1) (h:Hr w1 S w2 q room cs fr):Hr w S w2 q room cs fr:=by
 obtain ⟨⟨ss,⟨vp,vf,s,m,n⟩,R⟩,W⟩:=h;refine ⟨⟨ss,⟨vp,vf,s,(Mod.of_below hb S).trans' m,fun k hk=>?_⟩,R⟩,W⟩;rcases n k hk with q | q
 ·exact .inl q
 ·exact .inr (Nat.le_trans hb.size q)
theorem Hr.tell {f:FuncId} {args:Array Value} {E:Ending} (h:Hr w0 S w q room cs fr) (hc:∀vp vf ss,Rs w q vp vf room ss fr→Rel7 cs [] [] ss→Kc f args w fun e w'=>e=E∧Kb w w'):Kc f args w fun e w'=>e=E∧Kb w w':=by
 obtain ⟨⟨_,⟨_,_,s,_,_⟩,R⟩,_,_⟩:=h;exact hc _ _ _ s R
theorem Hr.same {f:FuncId} {args:Array Value} {E:Ending} (h:Hr w0 S w q room cs fr) (hc:∀vp vf ss,Rs w q vp vf room ss fr→Rel7 cs [] [] ss→Kc f args w fun e w'=>e=E∧Kb w w'):Kc f args w fun e w'=>e=E∧Hr w0 S w' q room cs fr:=(h.tell hc).mono fun _ _ ⟨e1,b⟩=>⟨e1,h.grow b⟩
theorem Hr.turn {f:FuncId} {args:Array Value} {E:Ending} (h:Hr w0 S w q room cs fr) (W':Wf cs' []) (I':Inv room (cs'.map pl) fr') (hc:∀vp vf ss,Rs w q vp vf room ss fr→Rel7 cs [] [] ss→Kc f args w fun e w'=>e=E∧∃ss',Rel7 cs' [] [] ss'∧RT7 w q (rsB q vp vf ss) room ss' fr' w'):Kc f args w fun e w'=>e=E∧Hr w0 S w' q room cs' fr':=by
 obtain ⟨⟨ss,⟨vp,vf,s,m,n⟩,R⟩,W,I⟩:=h;refine (hc _ _ _ s R).mono ?_;rintro e w' ⟨e1,ss',R',vp',vf',s',m',n'⟩;exact ⟨e1,⟨ss',⟨vp',vf',s',m.trans n m',n.trans m.size n'⟩,R'⟩,W',I'⟩
theorem Zwd (h:Hr w0 S w q room cs fr) (i:Nat) (hc:0<cc cs i) (hm:cc cs i<1073741824):Kc 54 #[.pointer (some ⟨q,0,none⟩),.int .i64 ((i:Int)+1)] w fun e w'=>e=.returned (.int .i64 0)∧Hr w0 S w' q room (moreC cs i) fr:=by
 have W:=h.wf;refine h.turn (W.more i hc) (Yak h.inv hc hm) fun _ _ _ s R=>?_
 have hs:=(Zcc R W ((i:Int)+1)).sum;rw [Zeb,show cot cs ((i:Int)+1)=cc cs i by rw [cot,if_pos (by omega),show ((i:Int)+1-1).toNat=i by omega]] at hs;exact (Zul s i ((R.inn W i).2 hc) (by omega)).mono fun e w3 ⟨e1,t⟩=>⟨e1,_,R.more W hc,t⟩
theorem Znw (h:Hr w0 S w q room cs fr) (x:Int) (hc:cot cs x=0):Kc 54 #[.pointer (some ⟨q,0,none⟩),.int .i64 x] w fun e w'=>e=.returned (.int .i64 7)∧Hr w0 S w' q room cs fr:=by
 have W:=h.wf;refine h.same fun _ _ _ s R=>(Zrh s x ?_).mono fun e w'' ⟨e1,e2⟩=>⟨e1,by rw [e2];exact Below.refl _ _⟩
 rw [(Zcc R W x).kind,W.cat0 hc];rfl
theorem Zmc (h:Hr w0 S w q room cs fr) (i:Nat) (hc:cc cs i=1073741824):Kc 54 #[.pointer (some ⟨q,0,none⟩),.int .i64 ((i:Int)+1)] w fun e w'=>e=.returned (.int .i64 4)∧Hr w0 S w' q room cs fr:=by
 have W:=h.wf;refine h.same fun _ _ _ s R=>?_
 have hs:=(Zcc R W ((i:Int)+1)).sum;rw [Zeb,show cot cs ((i:Int)+1)=cc cs i by rw [cot,if_pos (by omega),show ((i:Int)+1-1).toNat=i by omega]] at hs;exact Znh s i ((R.inn W i).2 (by omega)) (by omega)
theorem Zwe (h:Hr w0 S w q room cs fr) (i:Nat) (ho:0<own cs [] i) {cs':Lz} {fr':List Nat} {n:Nat} (r:Run cs fr [i+1] cs' fr' n):Kc 56 #[.pointer (some ⟨q,0,none⟩),.int .i64 ((i:Int)+1)] w fun e w'=>e=.returned (.tuple #[.int .i64 (n:Int),.int .i64 0])∧Hr w0 S w' q room cs' fr':=by
 have W:=h.wf;exact h.turn (r.step (W.less i ho)).wf (Yeo r h.inv) fun _ _ _ s R=>Zup s R W i ho h.inv.mostC h.inv.sumC r
theorem Zmd (h:Hr w0 S w q room cs fr) (x:Int) (hm:cot cs x≤(cat cs x).ab):Kc 56 #[.pointer (some ⟨q,0,none⟩),.int .i64 x] w fun e w'=>e=.returned (.tuple #[.int .i64 0,.int .i64 7])∧Hr w0 S w' q room cs fr:=
 h.same fun _ _ _ s R=>Znn s x (by rw [(Zcc R h.wf x).own];omega)
theorem Yew (h:Hr w0 S w q room cs fr) (h5:room≤5000) (K:Lq) (v v':Value) (bs:Lq) (hr:Reads w v bs) (hK:Key K) (hl:bs.length≤1024) (hf: ¬Full room cs fr) (ok:CeOk (lfC (lfD K (vaD bs)) K v' bs)):Kc 140 #[.pointer (some ⟨q,0,none⟩),.agg (B K),v] w fun e w'=>e=.returned (.tuple #[.int .i64 (tkH cs fr:Int),.int .i64 0])∧Hr w0 S w' q room (tkC cs fr (1,lfC (lfD K (vaD bs)) K v' bs)) fr.dropLast:=by
 have W:=h.wf;have I:=h.inv;have hF:=h.frok;have hbs:Bytes bs:=by obtain ⟨_,_,_,_,_,hb,_⟩:=hr;exact hb
 have tk:=(Zgb hF (1,lfC (lfD K (vaD bs)) K v' bs)).2;refine h.turn (W.leaf tk (Znv K v' bs hbs hl) ok rfl) (Zvt I hf _) fun _ _ _ s R=>?_
 refine (Zuj s (hF.slots R.len) K v bs hr hK hl (fun f=>hf ((Yhm R).1 f)) (by rw [R.len];have:=I.lenC;omega)).mono ?_;rintro e w3 ⟨a,c,rfl,t⟩;exact ⟨by rw [Zgc fr R.len],_,R.leaf hF _ K v' _ bs,t⟩
theorem Yhi (h5:room≤5000) (I:Inv room (cs.map pl) fr) (W:Wf cs []) {d l r:Nat} (hd:d<256) (hml:mayP cs (l:Int)) (hmr:mayP cs (r:Int)) {u:Bool} (hu:u=true↔Und (sdC cs l).key (sdC cs r).key (d:Int)) {vp vf:Value} {ss:List Sp} (s:Rs w q vp vf room ss fr) (R:Rel7 cs [] [] ss):Fit7 w q d l r (fitP d (sdC cs l) (sdC cs r) u):=fun w'' hb=>by
 have:=Ygu (s.grow hb) R W (by have:=I.lenC;omega) hd hml hmr (u:=u) (by rw [Zac,Zac];exact hu);rwa [Zac,Zac] at this
theorem Yci (W:Wf cs []) (hF:FrOk cs fr) {cs':Lz} {d l r:Nat} (hd:d<256) (hml:mayP cs (l:Int)) (hmr:mayP cs (r:Int)) {u:Bool} (hu:u=true↔Und (sdC cs l).key (sdC cs r).key (d:Int)) (hf:fitP d (sdC cs l) (sdC cs r) u=true) (hI:InnR cs fr d l r cs'):Wf cs' []:=by
 obtain ⟨K,hK,rfl⟩:=hI;have tk:=(Zgb hF (1,inC (inD (sdD cs l) (sdD cs r)) K ((sdC cs l).sz+(sdC cs r).sz) d l r)).2;exact W.inner tk (Zvx W hd hml hmr hu hf hK) ⟨Zad _,Zbj _,hK.1,none,0,rfl⟩ rfl hml.own hmr.own
theorem Yaq (h:Hr w0 S w q room cs fr) (h5:room≤5000) (d l r:Nat) (hd:d<256) (hml:mayP cs (l:Int)) (hmr:mayP cs (r:Int)) (u:Bool) (hu:u=true↔Und (sdC cs l).key (sdC cs r).key (d:Int)) (hf:fitP d (sdC cs l) (sdC cs r) u=true) (hfu: ¬Full room cs fr) {cs':Lz} (hI:InnR cs fr d l r cs'):Kc 175 #[.pointer (some ⟨q,0,none⟩),.int .i64 (d:Int),.int .i64 (l:Int),.int .i64 (r:Int)] w fun e w'=>e=.returned (.tuple #[.int .i64 (tkH cs fr:Int),.int .i64 0])∧Hr w0 S w' q room cs' fr.dropLast:=by
 have W:=h.wf;have I:=h.inv;have hF:=h.frok;have W':=Yci W hF hd hml hmr hu hf hI;have hne:l≠0→l≠r:=by
  obtain ⟨KF,hKF,_⟩:=hI;exact fun h0=>Zkc (Zvx W hd hml hmr hu hf hKF) h0
 refine h.turn W' (Zlz I hfu hI) fun _ _ _ s R=>?_
 have fit:=Yhi h5 I W hd hml hmr hu s R;rw [hf] at fit;refine (Zrg s (hF.slots R.len) R W d l r hd hml hmr fit (fun f=>hfu ((Yhm R).1 f)) (by rw [R.len];have:=I.lenC;omega) (Ygz R W I.mostC hml) (Yix R W I.mostC hml hmr hne)).mono ?_;rintro e w3 ⟨rfl,t⟩;exact ⟨by rw [Zgc fr R.len],_,R.inner W W' hF hml hmr hI,t⟩
end
end Go.Proofs.YtlclabbnpjobgaaGreatDoor
namespace Go.Proofs.YtlclabbnpjobgaaGreatDoor
variable {E:List Ent}
variable {K bs:Lq}
variable {cs cs' cs0 cs2:Lz}
variable {d g m n r room s top:Nat}
variable {fr fr' fr2 st:List Nat}
variable {ss:List Sp}
variable {vf vp:Value}
variable {w w' w1 w2:World}
set_option maxHeartbeats 2000000
set_option maxRecDepth 20000
open Go.RowKit
structure Lag (cs csR:Lz) (L:List Nat):Prop where
 len:csR.length=cs.length
 lce:∀i,ce csR i=ce cs i
 lcc:∀i,cc cs i=cc csR i+L.count (i+1)
 occ:∀h∈L,h=0∨0<cc csR (h-1)
section
variable {cs csR:Lz} {L:List Nat} {fr:List Nat}
theorem Lag.frok (h:Lag cs csR L) (hF:FrOk cs fr):FrOk csR fr:=fun s hs=>by
 obtain ⟨a,b,c⟩:=hF s hs;have:=h.lcc (s-1);exact ⟨a,by rw [h.len];exact b,by omega⟩
theorem Lag.tk (h:Lag cs csR L) (fr:List Nat):tkH csR fr=tkH cs fr:=Zgc fr h.len
theorem Lag.full (h:Lag cs csR L) (room:Nat):Full room csR fr↔Full room cs fr:=by
 unfold Full;rw [h.len]
theorem Lag.sd (h:Lag cs csR L) (x:Nat):sdC csR x=sdC cs x∧sdD csR x=sdD cs x:=by
 unfold sdC sdD;rw [h.lce];exact ⟨rfl,rfl⟩
theorem Lag.own (h:Lag cs csR L) (i:Nat):own csR [] i=Go.Proofs.YtlclabbnpjobgaaGreatDoor.own cs [] i-L.count (i+1):=by
 unfold Go.Proofs.YtlclabbnpjobgaaGreatDoor.own;have:=h.lcc i;rw [h.lce,List.count_nil];omega
theorem Lag.fill (h:Lag cs csR L) {p:Nat×Ce} (hF:FrOk cs fr) (hp:0<p.1):Lag (tkC cs fr p) (tkC csR fr p) L:=by
 obtain ⟨t1,tk⟩:=Zgb hF p;obtain ⟨_,tkR⟩:=Zgb (h.frok hF) p;rw [h.tk fr] at tkR;refine ⟨by rw [tkR.len,tk.len,h.len],fun i=>by rw [tkR.ce,tk.ce,h.lce],fun i=>?_,fun x hx=>?_⟩
 ·rw [tkR.cc,tk.cc];have hl:=h.lcc i
  by_cases e:i=tkH cs fr-1
  ·rw [if_pos e,if_pos e];rw [e,tk.vac] at hl;rw [e];omega
  ·rw [if_neg e,if_neg e];exact hl
 ·rcases h.occ x hx with e | e
  ·exact .inl e
  ·right;rw [tkR.cc];split
   ·exact hp
   ·exact e
theorem Lag.start {ss:List Nat} (hm:HmOk cs ss csR) (hv:∀x∈ss,x=0∨0<cc cs (x-1)):Lag csR cs ss:=⟨hm.len.symm,fun i=>(hm.ce i).symm,hm.cc,hv⟩
theorem Lag.more (h:Lag cs csR (L++[s])) (hs:1≤s):0<cc csR (s-1)∧Lag cs (moreC csR (s-1)) L:=by
 have hi:0<cc csR (s-1):=(h.occ s (by simp)).resolve_left (by omega);refine ⟨hi,by rw [Zhz,h.len],fun i=>by rw [Zcv,h.lce],fun i=>?_,fun x hx=>?_⟩
 ·rw [Zev hi,h.lcc i,List.count_append,List.count_singleton]
  by_cases e:s=i+1
  ·rw [if_pos (by simp [e]),if_pos (by omega)];omega
  ·rw [if_neg (by simpa using e),if_neg (by omega)];omega
 ·rcases h.occ x (by simp [hx]) with e | e
  ·exact .inl e
  ·right;rw [Zev hi];omega
theorem Lag.skip (h:Lag cs csR (L++[0])):Lag cs csR L:=⟨h.len,h.lce,fun i=>by
 have:=h.lcc i;rw [List.count_append,List.count_singleton,if_neg (by simp)] at this;exact this,fun x hx=>h.occ x (by simp [hx])⟩
theorem Lag.end (h:Lag cs csR []):csR=cs:=by
 apply List.ext_getElem?;intro i
 by_cases hi:i<cs.length
 ·have h1:=h.lcc i;have h2:=h.lce i;unfold Go.Proofs.YtlclabbnpjobgaaGreatDoor.cc at h1;unfold Go.Proofs.YtlclabbnpjobgaaGreatDoor.ce at h2;rw [List.getElem?_eq_getElem hi,List.getElem?_eq_getElem (by rw [h.len];exact hi)] at *;simp only [Option.getD_some,List.count_nil,Nat.add_zero] at h1 h2;exact congrArg some (Prod.ext h1.symm h2)
 ·rw [List.getElem?_eq_none (by rw [h.len];omega),List.getElem?_eq_none (by omega)]
theorem Yhy (cs:Lz) (l r i:Nat) (hl:l-1<cs.length∨l=0) (hr:r-1<cs.length∨r=0):ce (upA (upA cs l) r) i= { ce cs i with ab:=(ce cs i).ab+(if l=i+1 then 1 else 0)+(if r=i+1 then 1 else 0)}:=by
 have u1:=Zcg cs l;have uu:=u1.trans (Zcg (upA cs l) r);have hc:=uu.core i;rw [hc,Zez _ r i (by rw [u1.len];exact hr),Zez _ l i hl]
theorem Lag.inner (h:Lag cs csR L) (hF:FrOk cs fr) {cs':Lz} {d l r:Nat} (hl:l-1<cs.length∨l=0) (hr:r-1<cs.length∨r=0) (hI:InnR cs fr d l r cs'):∃csR',InnR csR fr d l r csR'∧Lag cs' csR' L:=by
 obtain ⟨KF,hKF,rfl⟩:=hI;obtain ⟨a1,a2⟩:=h.sd l;obtain ⟨b1,b2⟩:=h.sd r;refine ⟨_,⟨KF,by rw [a1,b1];exact hKF,rfl⟩,?_⟩;rw [a1,a2,b1,b2];have f:=h.fill (p:=(1,inC (inD (sdD cs l) (sdD cs r)) KF ((sdC cs l).sz+(sdC cs r).sz) d l r)) hF (by show (0:Nat)<1;omega);generalize (1,inC (inD (sdD cs l) (sdD cs r)) KF ((sdC cs l).sz+(sdC cs r).sz) d l r)=p at f;have tk:=(Zgb hF p).2;have hL:cs.length≤(tkC cs fr p).length:=by rw [tk.len];omega
 have hl2:l-1<(tkC cs fr p).length∨l=0:=by rcases hl with e | e;exact .inl (by omega);exact .inr e
 have hr2:r-1<(tkC cs fr p).length∨r=0:=by rcases hr with e | e;exact .inl (by omega);exact .inr e
 have u:=(Zcg (tkC cs fr p) l).trans (Zcg _ r);have v:=(Zcg (tkC csR fr p) l).trans (Zcg _ r);refine ⟨by rw [u.len,v.len,f.len],fun i=>?_,fun i=>by rw [u.cc,v.cc,f.lcc],fun x hx=>by rw [v.cc];exact f.occ x hx⟩;rw [Yhy _ l r i hl2 hr2,Yhy _ l r i (by rw [f.len];exact hl2) (by rw [f.len];exact hr2),f.lce]
end
theorem Ydf {L:List Nat} {t t2:Nat} (h:Rz K (L++[s]) cs fr t cs2 fr2 t2):∃cs1,InnR cs fr L.length (tl K L.length t s) (tr K L.length t s) cs1∧Rz K L cs1 fr.dropLast (tkH cs fr) cs2 fr2 t2:=by
 generalize hX:L++[s]=X at h;cases h with
 | done=>simp at hX
 | step h1 h2=>
  obtain ⟨rfl,e⟩:=List.append_inj' hX rfl;obtain rfl:s=_:=by simpa using e
  exact ⟨_,h1,h2⟩
theorem Ygk {t t2:Nat} (h:Rz K [] cs fr t cs2 fr2 t2):cs2=cs∧fr2=fr∧t2=t:=by
 generalize hX:([]:List Nat)=X at h;cases h with
 | done=>exact ⟨rfl,rfl,rfl⟩
 | step h1 h2=>simp at hX
structure RfI (cs0:Lz) (E:List Ent) (K bs:Lq) (ss:List Nat) (room m:Nat) (csP csR:Lz) (fr:List Nat) (top:Nat) (cs2:Lz) (fr2:List Nat) (topF:Nat):Prop where
 rz:Rz K (ss.take m) csP fr top cs2 fr2 topF
 ri:RzI cs0 E K bs ss m csP top
 lag:Lag csP csR (ss.take m)
 inv:Inv room (csP.map pl) fr
def csH (csR:Lz) (s:Nat):Lz:=if s=0 then csR else moreC csR (s-1)
theorem Zlb {ss:List Nat} (h:m<ss.length):ss.take (m+1)=ss.take m++[ss.getD m 0]:=by
 rw [List.take_add_one,List.getElem?_eq_getElem h,List.getD_eq_getElem?_getD,List.getElem?_eq_getElem h];rfl
structure RfS (csR:Lz) (fr:List Nat) (K:Lq) (m top s room:Nat):Prop where
 occ:s≠0→0<cc csR (s-1)
 ml:mayP (csH csR s) (tl K m top s:Int)
 mr:mayP (csH csR s) (tr K m top s:Int)
 fit:∃u,(u=true↔Und (sdC (csH csR s) (tl K m top s)).key (sdC (csH csR s) (tr K m top s)).key (m:Int))∧fitP m (sdC (csH csR s) (tl K m top s)) (sdC (csH csR s) (tr K m top s)) u=true
 full: ¬Full room (csH csR s) fr
theorem Zum {csP csR:Lz} {ss:List Nat} {topF:Nat} (b:BesOk cs0 E K ss) (hm:m<ss.length) (hroom:noc cs0+258≤room) (I:RfI cs0 E K bs ss room (m+1) csP csR fr top cs2 fr2 topF):
  RfS csR fr K m top (ss.getD m 0) room∧∃csP' csR',InnR (csH csR (ss.getD m 0)) fr m (tl K m top (ss.getD m 0)) (tr K m top (ss.getD m 0)) csR'∧RfI cs0 E K bs ss room m csP' csR' fr.dropLast (tkH (csH csR (ss.getD m 0)) fr) cs2 fr2 topF:=by
 obtain ⟨hml,hmr,u,hu,hf,next⟩:=Zua b hm I.ri;have hF:=Zcw I.inv;have rz:=I.rz;have lag:=I.lag;rw [Zlb hm] at rz lag;obtain ⟨csP',hI,rz'⟩:=Ydf rz;have hlen:(ss.take m).length=m:=by rw [List.length_take];omega
 rw [hlen] at hI;obtain ⟨s,hs⟩:∃s,s=ss.getD m 0:=⟨_,rfl⟩;rw [← hs] at hml hmr hu hf next lag hI ⊢;have hold:(s≠0→0<cc csR (s-1))∧Lag csP (csH csR s) (ss.take m):=by
  unfold csH
  by_cases e:s=0
  ·rw [if_pos e];rw [e] at lag;exact ⟨fun q=>absurd e q,lag.skip⟩
  ·rw [if_neg e];obtain ⟨a,c⟩:=lag.more (by omega);exact ⟨fun _=>a,c⟩
 obtain ⟨h1,lagH⟩:=hold;have W:=I.ri.wf;have full: ¬Full room csP fr:=fun f=>by
  have h1:=I.inv.sum;have h2:=I.ri.noc;have h3:=b.len;rw [f.1,List.length_map] at h1;have:=f.2;unfold noc at h2 hroom;simp at h1;omega
 have ownH:∀i,own (csH csR s) [] i=own cs0 [] i+(if s=i+1 then 1 else 0)+(if top=i+1 then 1 else 0):=fun i=>by
  rw [lagH.own];have:=I.ri.own i;rw [Zlb hm,← hs,List.count_append,List.count_singleton] at this
  by_cases e:s=i+1
  ·rw [if_pos (by simp [e])] at this;rw [if_pos e];omega
  ·rw [if_neg (by simpa using e)] at this;rw [if_neg e];omega
 have mtop:mayP (csH csR s) (top:Int):=Zkl (.inr (by
  have:=ownH (top-1);have ht:=I.ri.new.1;rw [if_pos (show top=top-1+1 by omega)] at this;omega))
 have ms:mayP (csH csR s) (s:Int):=Zkl (by
  by_cases e:s=0
  ·exact .inl e
  ·right;have:=ownH (s-1);rw [if_pos (show s=s-1+1 by omega)] at this;omega)
 have mlr:mayP (csH csR s) (tl K m top s:Int)∧mayP (csH csR s) (tr K m top s:Int):=by
  unfold tl tr;split
  ·exact ⟨ms,mtop⟩
  ·exact ⟨mtop,ms⟩
 have hl:∀x:Nat,mayP csP (x:Int)→x-1<csP.length∨x=0:=fun x hx=>by
  rcases hx.side with e | ⟨_,e,_⟩
  ·exact .inr e
  ·exact .inl (Zaw e)
 obtain ⟨csR',hR,lag'⟩:=lagH.inner hF (hl _ hml) (hl _ hmr) hI;have hfH:∃u,(u=true↔Und (sdC (csH csR s) (tl K m top s)).key (sdC (csH csR s) (tr K m top s)).key (m:Int))∧fitP m (sdC (csH csR s) (tl K m top s)) (sdC (csH csR s) (tr K m top s)) u=true:=by
  rw [(lagH.sd _).1,(lagH.sd _).1];exact ⟨u,hu,hf⟩
 refine ⟨⟨h1,mlr.1,mlr.2,hfH,fun f=>full ((lagH.full room).1 f)⟩,csP',csR',hR,?_⟩;have W':Wf csP' []:=Yci W hF (by have:=b.len;omega) hml hmr hu hf hI;rw [lagH.tk];exact ⟨rz',next fr csP' hF hI W',lag',Zlz I.inv full hI⟩
end Go.Proofs.YtlclabbnpjobgaaGreatDoor
namespace Go.Proofs.YtlclabbnpjobgaaGreatDoor
variable {E:List Ent}
variable {K bs:Lq}
variable {cs cs' cs0 cs2:Lz}
variable {d g m n r room s top:Nat}
variable {fr fr' fr2 st:List Nat}
variable {ss:List Sp}
variable {vf vp:Value}
variable {w w' w1 w2:World}
set_option maxHeartbeats 2000000
set_option maxRecDepth 20000
open Go.RowKit
section
variable {w0 w:World} {S:List Nat} {q room:Nat} {cs:Lz} {fr:List Nat}
theorem Zks (h:Hr w0 S w q room cs fr) (x:Int):Kc 141 #[.pointer (some ⟨q,0,none⟩),.int .i64 x] w fun e w'=>e=.returned (.int .u8 (cat cs x).kind)∧Kb w w':=h.tell fun _ _ _ s R=>by
 have:=Ygs s x;rwa [(Zcc R h.wf x).kind] at this
theorem Yex (h:Hr w0 S w q room cs fr) (x:Int):Kc 102 #[.pointer (some ⟨q,0,none⟩),.int .i64 x] w fun e w'=>e=.returned (.int .i64 ((cot cs x-(cat cs x).ab:Nat):Int))∧Kb w w':=h.tell fun _ _ _ s R=>by
 have:=Ygt s x;rwa [(Zcc R h.wf x).own] at this
theorem Zpt (h:Hr w0 S w q room cs fr) (x:Int):Kc 168 #[.pointer (some ⟨q,0,none⟩),.int .i64 x] w fun e w'=>e=.returned (.tuple #[.int .i64 ((cat cs x).l:Int),.int .i64 ((cat cs x).r:Int)])∧Kb w w':=h.tell fun _ _ _ s R=>by
 have:=Ydm s x;rwa [(Zcc R h.wf x).l,(Zcc R h.wf x).r] at this
theorem Yeu (h:Hr w0 S w q room cs fr) (x:Int):Kc 101 #[.pointer (some ⟨q,0,none⟩),.int .i64 x] w fun e w'=>e=.returned (.int .i64 (vRt true (cot cs x) (cat cs x) x))∧Kb w w':=h.tell fun _ _ _ s R=>Ygn s R h.wf x
theorem Zwc (h:Hr w0 S w q room cs fr) (h5:room≤5000) (x:Int):Kc 142 #[.pointer (some ⟨q,0,none⟩),.int .i64 x] w fun e w'=>e=.returned (.agg (B (cat cs x).key))∧Kb w w':=h.tell fun _ _ _ s R=>Yit s R h.wf (by have:=h.inv.lenC;omega) x
theorem Yhh (h:Hr w0 S w q room cs fr) (h5:room≤5000):Kc 99 #[.pointer (some ⟨q,0,none⟩)] w fun e w'=>e=.returned (.int .i64 (noc cs:Int))∧Kb w w':=h.tell fun _ _ _ s R=>Yis s R h.wf (by have:=h.inv.lenC;omega)
theorem Yev (h:Hr w0 S w q room cs fr):Kc 100 #[.pointer (some ⟨q,0,none⟩)] w fun e w'=>e=.returned (.int .i64 (room:Int))∧Kb w w':=h.tell fun _ _ _ s R=>(Ygo s).mono fun e w' ⟨e1,e2⟩=>⟨e1,by rw [e2];exact Below.refl _ _⟩
theorem Zwb (h:Hr w0 S w q room cs fr):Kc 88 #[.pointer (some ⟨q,0,none⟩)] w fun e w'=>e=.returned (.bool false)∧Kb w w':=h.tell fun _ _ _ s R=>(Zz q w s.c0).mono fun e w' ⟨e1,e2⟩=>⟨e1,by rw [e2];exact Below.refl _ _⟩
theorem Hr.sizes (h:Hr w0 S w q room cs fr):noc cs≤room∧room≤65536∧cs.length≤room:=by
 have h1:=h.inv.sum;have h2:=h.inv.len;have h3:=h.inv.r2;rw [List.length_map] at h1 h2;unfold noc;omega
theorem Zpa (h:Hr w0 S w q room cs fr) (h5:room≤5000) (j:Int):Kc 59 #[.pointer (some ⟨q,0,none⟩),.int .i64 j] w fun e w'=>e=.returned (.bool (fitsN (noc cs) room j))∧Kb w w':=by
 have HR:=Za (Zwb h);have HO:Hid (Kr w 99 #[.pointer (some ⟨q,0,none⟩)] (.int .i64 (noc cs:Int))):=fun w' hb=>Yhh (h.grow hb) h5
 have HM:Hid (Kr w 100 #[.pointer (some ⟨q,0,none⟩)] (.int .i64 (room:Int))):=fun w' hb=>Yev (h.grow hb)
 obtain ⟨h1,h2,_⟩:=h.sizes;generalize noc cs=n at HO h1 ⊢;clear h
 by_cases j0:j<0
 ·rw [show fitsN n room j=false by simp [fitsN];omega];have j0': ¬0≤j:=by omega
  clear h1 h2 h5;go_enter Tryz.func59,Tryz.ntmps59
  go_wp2_with (go_at_call 88;refine HR.out.mono ?_;rintro e w1 ⟨rfl,b1⟩;have HB:=Za b1;clear b1)
  go_ret;exact ⟨rfl,HB.out⟩
 by_cases j1:64<j
 ·rw [show fitsN n room j=false by simp [fitsN];omega];have j0':0≤j:=by omega
  have j1': ¬j≤64:=by omega
  clear h1 h2 h5;go_enter Tryz.func59,Tryz.ntmps59
  go_wp2_with (go_at_call 88;refine HR.out.mono ?_;rintro e w1 ⟨rfl,b1⟩;have HB:=Za b1;clear b1)
  go_ret;exact ⟨rfl,HB.out⟩
 obtain ⟨k,rfl⟩:∃k:Nat,j=(k:Int):=⟨j.toNat,by omega⟩;have hk:k≤64:=by omega
 have HV:Hid (fitsN n room (k:Int)=decide (((n:Int)+258 * (k:Int))≤(room:Int))):=by
  show _=_;unfold fitsN;congr 1
  apply propext;constructor
  ·exact fun q=>q.2.2
  ·exact fun q=>⟨by omega,by omega,q⟩
 have w1:wrap64 (258 * (k:Int))=258 * (k:Int):=Go.IntWalk.wrap64_in _ (by omega);have w2:wrap64 ((n:Int)+258 * (k:Int))=(n:Int)+258 * (k:Int):=Go.IntWalk.wrap64_in _ (by omega);have j2:(k:Int)≤64:=by omega
 have j3:(0:Int)≤(k:Int):=by omega
 rw [HV.out];clear HV j0 j1 h1 h2 h5;go_enter Tryz.func59,Tryz.ntmps59
 go_wp2_with (first
  |(go_at_call 88;refine HR.out.mono ?_;rintro e w1 ⟨rfl,b1⟩;have HB:=Za b1;clear b1)
  |(go_at_call 99;refine (HO.out _ HB.out).mono ?_;rintro e w2 ⟨rfl,b2⟩;replace HB:=Za (Zb HB.out b2);clear b2)
  |(go_at_call 100;refine (HM.out _ HB.out).mono ?_;rintro e w3 ⟨rfl,b3⟩;replace HB:=Za (Zb HB.out b3);clear b3))
 go_ret;exact ⟨rfl,HB.out⟩
theorem Zpd (V:Hr w0 S w q room cs fr) (h:Int):Kc 61 #[.pointer (some ⟨q,0,none⟩),.int .i64 h] w fun e w'=>e=.returned (.int .i64 (vAh true (cot cs h) (cat cs h) h))∧Kb w w':=by
 have HR:=Za (Yeu V h);have HH:Hid (Kr w 102 #[.pointer (some ⟨q,0,none⟩),.int .i64 h] (.int .i64 ((cot cs h-(cat cs h).ab:Nat):Int))):=fun w' hb=>Yex (V.grow hb) h
 unfold vAh;generalize vRt true (cot cs h) (cat cs h) h=r at HR ⊢;generalize cot cs h-(cat cs h).ab=m at HH ⊢;clear V
 by_cases r0:r=0
 ·subst r0;rw [if_pos rfl]
  by_cases h0:h=0
  ·subst h0;rw [if_neg (by simp)];go_enter Tryz.func61,Tryz.ntmps61
   go_wp2_with (first
    |(go_at_call 101;refine HR.out.mono ?_;rintro e w1 ⟨rfl,b1⟩;have HB:=Za b1;clear b1))
   go_ret;exact ⟨rfl,HB.out⟩
  ·by_cases m0:m=0
   ·subst m0;rw [if_pos ⟨h0,rfl⟩];go_enter Tryz.func61,Tryz.ntmps61
    go_wp2_with (first
     |(go_at_call 101;refine HR.out.mono ?_;rintro e w1 ⟨rfl,b1⟩;have HB:=Za b1;clear b1)
     |(go_at_call 102;refine (HH.out _ HB.out).mono ?_;rintro e w2 ⟨rfl,b2⟩;replace HB:=Za (Zb HB.out b2);clear b2))
    go_ret;exact ⟨rfl,HB.out⟩
   ·rw [if_neg (fun e=>m0 e.2)];have m1: ¬(m:Int)=0:=by omega
    have m2:((m:Int) == 0)=false:=by simpa using m1
    have m3:(h != 0)=true:=by simpa using h0
    go_enter Tryz.func61,Tryz.ntmps61
    go_wp2_with (first
     |(go_at_call 101;refine HR.out.mono ?_;rintro e w1 ⟨rfl,b1⟩;have HB:=Za b1;clear b1)
     |(go_at_call 102;refine (HH.out _ HB.out).mono ?_;rintro e w2 ⟨rfl,b2⟩;replace HB:=Za (Zb HB.out b2);clear b2))
    go_ret;exact ⟨rfl,HB.out⟩
 ·rw [if_neg r0];go_enter Tryz.func61,Tryz.ntmps61
  go_wp2_with (first
   |(go_at_call 101;refine HR.out.mono ?_;rintro e w1 ⟨rfl,b1⟩;have HB:=Za b1;clear b1))
  go_ret;exact ⟨rfl,HB.out⟩
theorem Zgg (V:Hr w0 S w q room cs fr) (h:Int) (a:Option Addr) (n c:Nat):Kc 137 #[.pointer (some ⟨q,0,none⟩),.int .i64 h,.slice a n c] w fun e w'=>e=.returned (.int .i64 (vRf true (cot cs h) (cat cs h) h n))∧Kb w w':=by
 have HR:=Za (Zwb V);have HA:Hid (Kr w 61 #[.pointer (some ⟨q,0,none⟩),.int .i64 h] (.int .i64 (vAh true (cot cs h) (cat cs h) h))):=fun w' hb=>Zpd (V.grow hb) h
 unfold vRf;rw [if_pos rfl];generalize vAh true (cot cs h) (cat cs h) h=r at HA ⊢;clear V
 by_cases hn:1024<n
 ·have hn1:(1024:Int)<(n:Int):=by omega
  rw [if_pos hn];clear hn;go_enter Tryz.func137,Tryz.ntmps137
  go_wp2_with (first
   |(go_at_call 88;refine HR.out.mono ?_;rintro e w1 ⟨rfl,b1⟩;have HB:=Za b1;clear b1))
  go_ret;exact ⟨rfl,HB.out⟩
 ·have hn1: ¬(1024:Int)<(n:Int):=by omega
  rw [if_neg hn];clear hn;go_enter Tryz.func137,Tryz.ntmps137
  go_wp2_with (first
   |(go_at_call 88;refine HR.out.mono ?_;rintro e w1 ⟨rfl,b1⟩;have HB:=Za b1;clear b1)
   |(go_at_call 61;refine (HA.out _ HB.out).mono ?_;rintro e w2 ⟨rfl,b2⟩;replace HB:=Za (Zb HB.out b2);clear b2))
  go_ret;exact ⟨rfl,HB.out⟩
theorem Ydq (V:Hr w0 S w q room cs fr) (K:Lq) (hK:Key K) (d:Nat) (hd:d<256) (h:Int):Kc 145 #[.pointer (some ⟨q,0,none⟩),.agg (B K),.int .i64 (d:Int),.int .i64 h] w fun e w'=>e=.returned (.int .i64 ((if kb K d=1 then (cat cs h).l else (cat cs h).r:Nat):Int))∧Kb w w':=by
 have HSd:Hid (Kr w 168 #[.pointer (some ⟨q,0,none⟩),.int .i64 h] (.tuple #[.int .i64 ((cat cs h).l:Int),.int .i64 ((cat cs h).r:Int)])):=fun w' hb=>Zpt (V.grow hb) h
 have HBt:Hid (∀w',Kc 169 #[.agg (B K),.int .i64 (d:Int)] w' fun e w''=>e=.returned (.int .i64 (kb K d))∧Below w'.heap.size w' w''):=fun w'=>Zfd K d w' hK hd
 have HPS:Hid ((Tryz.prog.info? 48).map (·.size)=some (B K).size):=by show _=_;rw [Zn,hK.1];exact Zi
 generalize (cat cs h).l=l at HSd ⊢;generalize (cat cs h).r=r at HSd ⊢;generalize kb K d=kd at HBt ⊢;clear V hK
 by_cases k1:kd=1
 ·subst k1;rw [if_pos rfl];go_enter Tryz.func145,Tryz.ntmps145
  go_wp2_with (first
   |((with_reducible refine Zo 5 ?_);refine Zd _ rfl _ _ rfl _ rfl ?_;intro w1 b5 hg5 hl5 B5 q5;have HB5:=Za B5;have HQ:=Za q5;clear hg5 hl5 B5 q5)
   |(go_at_call 168;refine (HSd.out _ HQ.out).mono ?_;rintro e w2 ⟨rfl,b2⟩;replace HQ:=Za (Zb HQ.out b2);have HB6:=Za (HB5.out.grow b2);clear b2)
   |((with_reducible refine Zk 17 5 ?_);refine Zg _ rfl _ _ rfl b5 _ rfl HB6.out _ _ Tryz.underlying48 HPS.out ?_)
   |(go_at_call 169;refine (HBt.out _).mono ?_;rintro e w3 ⟨rfl,b3⟩;replace HQ:=Za (Zb HQ.out b3);clear b3))
  go_ret;exact ⟨rfl,HQ.out⟩
 ·rw [if_neg k1];go_enter Tryz.func145,Tryz.ntmps145
  go_wp2_with (first
   |((with_reducible refine Zo 5 ?_);refine Zd _ rfl _ _ rfl _ rfl ?_;intro w1 b5 hg5 hl5 B5 q5;have HB5:=Za B5;have HQ:=Za q5;clear hg5 hl5 B5 q5)
   |(go_at_call 168;refine (HSd.out _ HQ.out).mono ?_;rintro e w2 ⟨rfl,b2⟩;replace HQ:=Za (Zb HQ.out b2);have HB6:=Za (HB5.out.grow b2);clear b2)
   |((with_reducible refine Zk 17 5 ?_);refine Zg _ rfl _ _ rfl b5 _ rfl HB6.out _ _ Tryz.underlying48 HPS.out ?_)
   |(go_at_call 169;refine (HBt.out _).mono ?_;rintro e w3 ⟨rfl,b3⟩;replace HQ:=Za (Zb HQ.out b3);clear b3))
  go_ret;exact ⟨rfl,HQ.out⟩
theorem Ygr (V0:Hr w0 S w q room cs fr) (h5:room≤5000) (K:Lq) (hK:Key K) (d node other:Nat) (hd:d<256) (hml:mayP cs (tl K d node other:Int)) (hmr:mayP cs (tr K d node other:Int)) (u:Bool) (hu:u=true↔Und (sdC cs (tl K d node other)).key (sdC cs (tr K d node other)).key (d:Int)) (hf:fitP d (sdC cs (tl K d node other)) (sdC cs (tr K d node other)) u=true) (hfu: ¬Full room cs fr) {cs':Lz} (hI:InnR cs fr d (tl K d node other) (tr K d node other) cs'):Kc 144 #[.pointer (some ⟨q,0,none⟩),.agg (B K),.int .i64 (d:Int),.int .i64 (node:Int),.int .i64 (other:Int)] w fun e w'=>e=.returned (.int .i64 (tkH cs fr:Int))∧Hr w0 S w' q room cs' fr.dropLast:=by
 have HIn:Hid (∀w',Kb w w'→Kc 175 #[.pointer (some ⟨q,0,none⟩),.int .i64 (d:Int),.int .i64 (tl K d node other:Int),.int .i64 (tr K d node other:Int)] w' fun e w''=>e=.returned (.tuple #[.int .i64 (tkH cs fr:Int),.int .i64 0])∧Hr w0 S w'' q room cs' fr.dropLast):=fun w' hb=>Yaq (V0.grow hb) h5 d _ _ hd hml hmr u hu hf hfu hI
 have HBt:Hid (∀w',Kc 169 #[.agg (B K),.int .i64 (d:Int)] w' fun e w''=>e=.returned (.int .i64 (kb K d))∧Below w'.heap.size w' w''):=fun w'=>Zfd K d w' hK hd
 have HPS:Hid ((Tryz.prog.info? 48).map (·.size)=some (B K).size):=by show _=_;rw [Zn,hK.1];exact Zi
 obtain ⟨R,hR⟩:∃R:World→Prop,R=fun w''=>Hr w0 S w'' q room cs' fr.dropLast:=⟨_,rfl⟩
 replace HIn:Hid (∀w',Kb w w'→Kc 175 #[.pointer (some ⟨q,0,none⟩),.int .i64 (d:Int),.int .i64 (tl K d node other:Int),.int .i64 (tr K d node other:Int)] w' fun e w''=>e=.returned (.tuple #[.int .i64 (tkH cs fr:Int),.int .i64 0])∧R w''):=by rw [hR];exact HIn
 have HPost:Hid (∀w'',R w''→Hr w0 S w'' q room cs' fr.dropLast):=fun w'' h=>by rw [hR] at h;exact h
 unfold tl tr at HIn;generalize (tkH cs fr:Int)=th at HIn ⊢;generalize kb K d=kd at HBt HIn;clear V0 hK hml hmr hu hf hfu hI hR
 by_cases k1:kd=1
 ·subst k1;rw [if_pos rfl,if_pos rfl] at HIn;go_enter Tryz.func144,Tryz.ntmps144
  go_wp2_with (first
   |((with_reducible refine Zo 6 ?_);refine Zd _ rfl _ _ rfl _ rfl ?_;intro w1 b5 hg5 hl5 B5 q5;have HB5:=Za B5;have HQ:=Za q5;clear hg5 hl5 B5 q5)
   |((with_reducible refine Zk 17 6 ?_);refine Zg _ rfl _ _ rfl b5 _ rfl HB5.out _ _ Tryz.underlying48 HPS.out ?_)
   |(go_at_call 169;refine (HBt.out _).mono ?_;rintro e w3 ⟨rfl,b3⟩;replace HQ:=Za (Zb HQ.out b3);clear b3)
   |(go_at_call 175;refine (HIn.out _ HQ.out).mono ?_;rintro e w4 ⟨rfl,r4⟩;have HR4:=Za r4;clear r4))
  go_ret;exact ⟨rfl,HPost.out _ HR4.out⟩
 ·rw [if_neg k1,if_neg k1] at HIn;go_enter Tryz.func144,Tryz.ntmps144
  go_wp2_with (first
   |((with_reducible refine Zo 6 ?_);refine Zd _ rfl _ _ rfl _ rfl ?_;intro w1 b5 hg5 hl5 B5 q5;have HB5:=Za B5;have HQ:=Za q5;clear hg5 hl5 B5 q5)
   |((with_reducible refine Zk 17 6 ?_);refine Zg _ rfl _ _ rfl b5 _ rfl HB5.out _ _ Tryz.underlying48 HPS.out ?_)
   |(go_at_call 169;refine (HBt.out _).mono ?_;rintro e w3 ⟨rfl,b3⟩;replace HQ:=Za (Zb HQ.out b3);clear b3)
   |(go_at_call 175;refine (HIn.out _ HQ.out).mono ?_;rintro e w4 ⟨rfl,r4⟩;have HR4:=Za r4;clear r4))
  go_ret;exact ⟨rfl,HPost.out _ HR4.out⟩
end
end Go.Proofs.YtlclabbnpjobgaaGreatDoor
