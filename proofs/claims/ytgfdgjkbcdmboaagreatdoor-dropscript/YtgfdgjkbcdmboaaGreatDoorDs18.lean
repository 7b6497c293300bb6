/- Calls of a store, as contracts: Drop. -/
import Derived.Test.YtgfdgjkbcdmboaaGreatDoorDs17
namespace Go.Proofs.YtgfdgjkbcdmboaaGreatDoor
variable {base g gs h n o room:Nat}
variable {cs cs':Lz}
variable {es:List Ent}
variable {fr fr' pend:List Nat}
variable {v vf vf' vp vp':Value}
variable {w w':World}
variable {xs:List Value}
variable {zs:Lq}
set_option maxHeartbeats 4000000
set_option maxRecDepth 20000
open Go.RowKit
theorem Yfb (h:Stm w g gs vp vf room cs fr) (k:Stm w g gs vp' vf' room cs' fr'):tot cs=tot cs':=by
 have e1:vp=vp':=Option.some.inj (h.sl.c2.symm.trans k.sl.c2);subst e1;have hp:=h.sl.pls;have kp:=k.sl.pls;obtain ⟨a1,c1,q1⟩:=Zo hp;obtain ⟨a2,c2,q2⟩:=Zo kp;rw [q1] at q2;injection q2 with _ e2 _;have hl:cs.length=cs'.length:=by simpa using e2
 have hc:∀i,i<cs.length→cc cs i=cc cs' i:=fun i hi=>by
  obtain ⟨b,c,e,_⟩:=Zbg hp (by simp;omega);have hp':=hp;have kp':=kp;rw [e] at hp';have e3:vp=.slice (some ⟨b,0,none⟩) (cs'.map pl).length c:=by rw [e];simp [hl]
  rw [e3] at kp';have hm:i * (71+1)<(cs.map pl).length * (71+1):=Nat.mul_lt_mul_of_pos_right (by simpa using hi) (by omega);have c1:=Zcd hp' (i * (71+1)) hm;have c2:=Zcd kp' (i * (71+1)) (by simpa [hl] using hm);rw [Zfx h.sl.wid i (by simpa using hi)] at c1;rw [Zfx k.sl.wid i (by simp;omega)] at c2;rw [c1] at c2;injection c2 with c2;injection c2 with _ c2;rw [Zan,Zan] at c2;omega
 unfold tot;congr 1
 apply List.ext_getElem (by simpa using hl);intro i h1 h2;have:=hc i (by simpa using h1);have h1':i<cs.length:=by simpa using h1
 have h2':i<cs'.length:=by simpa using h2
 simpa [cc,h1',h2'] using this
theorem Yfc (g gs room:Nat):∃mea:World→Nat,∀w vp vf cs fr,Stm w g gs vp vf room cs fr→mea w=tot cs:=by
 have h:∀w:World,∃m:Nat,∀vp vf cs fr,Stm w g gs vp vf room cs fr→m=tot cs:=fun w=>by
  by_cases e:∃vp vf cs fr,Stm w g gs vp vf room cs fr
  ·obtain ⟨vp,vf,cs,fr,h⟩:=e;exact ⟨tot cs,fun vp' vf' cs' fr' k=>Yfb h k⟩
  ·exact ⟨0,fun vp vf cs fr k=>absurd ⟨vp,vf,cs,fr,k⟩ e⟩
 exact ⟨fun w=>Classical.choose (h w),fun w=>Classical.choose_spec (h w)⟩
theorem Zyu (s:Stm w g gs vp vf room cs fr) (i:Nat) (hc:1<cc cs i):Kc 112 #[.pointer (some ⟨gs,0,none⟩),.int .i64 ((i+1:Nat):Int)] w fun e w'=>e=.returned (.tuple #[.bool false,.int .i64 0])∧STurn w g gs (stB g gs vp vf cs) room (lessC cs i) fr w':=by
 refine (Zui gs vp vf room _ fr _ i w s.sl rfl (by rw [Zan];omega) (by rw [Zan];exact hc)).mono ?_;rintro e w' ⟨rfl,t⟩;have hl:=Zbu (cs:=cs) (i:=i) (by omega);rw [Zan,Zvk cs i hl,map_set] at t;refine ⟨rfl,s.turn' (Below.refl _ _) t (fun j=>.inr ⟨j,?_⟩)⟩;have e:ce (lessC cs i) j=ce cs j:=by
  unfold lessC;rw [Zdu cs i j _ hl];split
  ·next e=>rw [e]
  ·rfl
 rw [e];exact ⟨rfl,rfl⟩
theorem Zyv (s:Stm w g gs vp vf room cs fr) (i:Nat) (hc:cc cs i=1):Kc 112 #[.pointer (some ⟨gs,0,none⟩),.int .i64 ((i+1:Nat):Int)] w fun e w'=>e=.returned (.tuple #[.bool true,.int .i64 0])∧STurn w g gs (stB g gs vp vf cs) room (cs.set i (0,zc)) (fr++[i+1]) w':=by
 refine (Zuj gs vp vf room _ fr _ i w s.sl rfl (by rw [Zan];omega) (by rw [Zan];exact hc)).mono ?_;rintro e w' ⟨rfl,t⟩;have hl:=Zbu (cs:=cs) (i:=i) (by omega);rw [← Yhp,map_set] at t;refine ⟨rfl,s.turn' (Below.refl _ _) t (fun j=>?_)⟩;rw [Zdu cs i j _ hl];split
 ·exact .inl ⟨rfl,rfl⟩
 ·exact .inr ⟨j,rfl,rfl⟩
theorem Zuk (s:Stm w g gs vp vf room cs fr) (hw:Wf cs pend) (h:Int) (hm:cot cs h≤(cat cs h).ab):Kc 55 #[.pointer (some ⟨g,0,none⟩),.int .i64 h] w fun e w'=>e=.returned (.tuple #[.int .i64 0,.int .i64 7])∧Kb w w':=by
 have c0:=s.c0;have HH:=Za (Zgo (Zkd s hw) h);rw [show cot cs h-(cat cs h).ab=0 by omega] at HH;clear s hw hm;go_enter Tryz.func55,Tryz.ntmps55
 go_wp2_with (first
  |(go_at_call 79;refine (Zbd g _ c0).mono ?_;rintro e w' ⟨rfl,hx⟩;rw [hx];clear hx w')
  |(go_at_call 90;refine HH.out.mono ?_;rintro e w1 ⟨rfl,b1⟩))
 go_ret2;exact ⟨rfl,b1⟩
theorem Zxp (h:Nat):(ne0 h).reverse=ne0 h:=by
 unfold ne0;split <;> rfl
theorem Ygn (w:World) (b:Nat) (x:Nat) (h:Blk w b 3 #[.int .i64 (x:Int)]):Lst w 3 1 (.slice (some ⟨b,0,none⟩) 1 1) 1 (nats [x]):=⟨by simp [nats],.inr ⟨b,1,_,rfl,Nat.zero_le _,h,by omega,by decide,by simp,by simp [nats]⟩⟩
theorem Ydd (s:Stm w g gs vp vf room cs fr) (hw:Wf cs []) (i:Nat) (ho:0<own cs [] i):Kc 55 #[.pointer (some ⟨g,0,none⟩),.int .i64 ((i+1:Nat):Int)] w fun e w'=>∃cs' fr' n,Run cs fr [i+1] cs' fr' n∧e=.returned (.tuple #[.int .i64 (n:Int),.int .i64 0])∧STurn w g gs (stB g gs vp vf cs) room cs' fr' w':=by
 have c0:=s.c0;have hcat:cat cs (((i+1:Nat):Int))=ce cs i:=by rw [Zy];rfl
 have hcot:cot cs (((i+1:Nat):Int))=cc cs i:=by unfold cot;rw [if_pos (by omega),show ((i+1:Nat):Int)-1=(i:Int) by omega,Int.toNat_natCast]
 have HH:=Za (Zgo (Zkd s hw) ((i+1:Nat):Int));rw [hcat,hcot] at HH;obtain ⟨q,hq⟩:∃q,q=cc cs i-(ce cs i).ab:=⟨_,rfl⟩;rw [← hq] at HH;have hq0:((q:Int) == 0)=false:=by
  have h1:=hw.own i;rw [List.count_nil] at h1;simp;omega
 have HW1:=Za (hw.less i ho);obtain ⟨mea,hmea⟩:=Yfc g gs room;have HME:=Za hmea;have HFL:Hid (∀w' vp' vf' cs' fr',Stm w' g gs vp' vf' room cs' fr'→fr'.length≤65536∧noc cs'≤65536∧∀j,cc cs' j≤1073741824):=fun w' vp' vf' cs' fr' t=>by
  have h1:=t.sl.inv.frlen;have h2:=t.sl.inv.len;have h3:=t.sl.inv.r2;have h4:=t.sl.inv.sum;refine ⟨by omega,?_,fun j=>?_⟩
  ·show occs _≤_;omega
  ·have:=t.sl.inv.most j;rwa [Zan] at this
 have HS:=Za s;obtain ⟨h,hh⟩:∃h:Int,h=((i+1:Nat):Int):=⟨_,rfl⟩;rw [← hh] at HH;rw [← hh];have HHH:=Za hh;obtain ⟨S,hS⟩:∃S,S=stB g gs vp vf cs:=⟨_,rfl⟩;rw [← hS];have HSS:=Za hS;clear s hw ho hcat hcot hq hmea hh hS;go_enter Tryz.func55,Tryz.ntmps55
 go_wp2_with (first
  |(go_at_call 79;refine (Zbd g _ c0).mono ?_;rintro e w' ⟨rfl,hx⟩;rw [hx];clear hx w')
  |(go_at_call 90;refine HH.out.mono ?_;rintro e w1 ⟨rfl,b1⟩;have Hb1:=Za b1;clear b1))
 have HD0:Hid (Dl w S g gs room cs fr (.slice (some ⟨w1.heap.size,0,none⟩) 1 1) [i+1] [] (w1.alloc (.cells #[.int .i64 h] 3))):=by
  have b2:=Zb Hb1.out (Zh w1 (.cells #[.int .i64 h] 3));rw [HSS.out];refine ⟨vp,vf,HS.out.grow b2,Mod.of_below b2 _,fun _ hk=>.inl hk,?_,fun k hk=>?_,fun x hx=>by cases hx⟩
  ·refine Ygn _ _ (i+1) ?_;rw [← HHH.out];exact Blk.new _ _ _
  ·simp only [Value.ownBlock,Option.some.injEq] at hk;subst hk;refine ⟨Hb1.out.size,fun e=>?_⟩;have:=(HS.out.grow Hb1.out).lts _ e;omega
 have HI0:Hid (Wf cs [i+1]∧0+noc cs≤65536∧1≤fr.length+1∧∀cs' fr' m,Run cs fr [i+1] cs' fr' m→Run cs fr [i+1] cs' fr' (0+m)):=⟨HW1.out,by have:=(HFL.out _ _ _ _ _ HS.out).2.1;omega,by omega,fun _ _ m h=>by rwa [Nat.zero_add]⟩;clear HS HW1 HHH Hb1;generalize w1.alloc (.cells #[.int .i64 h] 3)=w2 at *;generalize w1.heap.size=b0 at *
 go_loopw [1,6,7] (fun hv fv nv wr=>∃(h1:Int) (n:Nat) (cs1:Lz) (fr1 st:List Nat) (a:Option Addr) (c:Nat),hv=.int .i64 h1∧fv=.int .i64 (n:Int)∧nv=.slice a st.length c∧Hid (Dl w S g gs room cs1 fr1 (.slice a st.length c) st.reverse [] wr)∧Hid (Wf cs1 st∧n+noc cs1≤65536∧st.length≤fr1.length+1∧∀cs' fr' m,Run cs1 fr1 st cs' fr' m→Run cs fr [i+1] cs' fr' (n+m))) (fun _ _ _ wr=>mea wr)
 case atStart=>exact ⟨h,0,cs,fr,[i+1],_,_,rfl,rfl,rfl,HD0,HI0⟩
 case round=>
  clear HD0 HI0;obtain ⟨h1,n,cs1,fr1,st,a,c,rfl,rfl,rfl,hD,hI⟩:=hrel;cases st with
  | nil=>
   have HRUN:=Za (hI.out.2.2.2 _ _ _ (Run.done cs1 fr1));have HT:=Za hD.out.turned;clear hD hI;go_wp2
   go_ret2;exact ⟨cs1,fr1,n,HRUN.out,rfl,HT.out⟩
  | cons hj st1=>
   obtain ⟨hW,hN,hLn,hR⟩:=hI.out;obtain ⟨j,rfl⟩:∃j,hj=j+1:=⟨hj-1,by have:=hW.pos hj (by simp);omega⟩;have hcj:1≤cc cs1 j:=by
    have:=hW.le j;rw [List.count_cons_self] at this;omega
   have hD1:=hD.out;rw [List.reverse_cons] at hD1;obtain ⟨b,c',hv,hcap,hcell⟩:=hD1.last;rw [List.length_reverse] at hv hcap hcell;injection hv with e1 e2 e3;subst e1;subst e3;have HDP:Hid (Dl w S g gs room cs1 fr1 (.slice (some ⟨b,0,none⟩) st1.length c) st1.reverse [] wr):=by
    have h0:=hD1;rw [show ((j+1)::st1).length=(st1.reverse++[j+1]).length by simp] at h0;have h1:=h0.pop;rw [List.length_reverse] at h1;exact h1
   have hFL:fr1.length≤65536:=by
    obtain ⟨vp1,vf1,q1,_⟩:=hD.out;exact (HFL.out _ _ _ _ _ q1).1
   have HNj:=Za (hW.tr j (by omega));have HOK:=Za (hW.ok j);have HAT:Hid (Kr wr 111 #[.pointer (some ⟨g,0,none⟩),.int .i64 ((j+1:Nat):Int)] (.agg (cz (ce cs1 j)).toArray)):=fun w' hb=>by
    obtain ⟨vp1,vf1,q1,_⟩:=hD.out;have:=(Zkd q1 hW).atv w' ((j+1:Nat):Int) hb;rwa [Zy] at this
   have hl1:st1.length≤65537:=by simp only [List.length_cons] at hLn;omega
   have HW1:=Za hW;have HRR:=Za hR;have HNN:=Za hN;have HLL:=Za hLn;have HL1:=Za hl1;have HME0:Hid (mea wr=tot cs1):=by
    obtain ⟨vp1,vf1,q1,_⟩:=hD.out;exact HME.out _ _ _ _ _ q1
   obtain ⟨y,hy⟩:∃y:Int,y=((j+1:Nat):Int):=⟨_,rfl⟩;rw [← hy] at hcell HAT;have HY:=Za hy;obtain ⟨k,hk⟩:∃k,k=ce cs1 j:=⟨_,rfl⟩;rw [← hk] at HAT HOK;have HKE:=Za hk;obtain ⟨m,hm⟩:∃m,m=st1.length:=⟨_,rfl⟩;rw [← hm] at hcap hcell HDP hl1;have HM:=Za hm;have i0:(0:Int)≤(m:Int):=by omega
   have i1:(m:Int)<(m:Int)+1:=by omega
   have i1':(m:Int)<((m+1:Nat):Int):=by omega
   have i2:(m:Int)≤(c:Int):=by omega
   have i3:(0:Int)<((m+1:Nat):Int):=by omega
   have hwm:wrap64 (m:Int)=(m:Int):=Go.IntWalk.wrap64_in _ (by omega);rw [List.length_cons,← hm];have hnb:n≤65536:=by omega
   have hwn:wrap64 ((n:Int)+1)=((n+1:Nat):Int):=by rw [Go.IntWalk.wrap64_in _ (by omega)];rfl
   have HFR:=Za hFL;clear hD hI hW hN hLn hR hD1 hy hk hm e2 hl1 hFL hnb
   go_wp2_with fail
   go_quiet (fail)
   have HB2:Hid (Kb wr (wr.drewN nq)):=below_drewN (Below.refl _ _) nq;generalize wr.drewN nq=w2' at *;rcases Nat.lt_or_eq_of_le hcj with hgt | heq
   ·have HC:=Za hgt;clear hcj hgt
    go_wp2_with (first
     |(go_at_call 111;refine (HAT.out _ HB2.out).mono ?_;rintro e w3 ⟨rfl,b3⟩;have HB3:=Za b3;clear b3)
     |((with_reducible refine Zw 9 ?_);refine Zf _ rfl _ rfl _ Zai ?_;intro w4 b9 hg9 hl9 B9 b4;have HB9:=Za B9;have Hg9:=Za hg9;have HB4:=Za b4;clear hg9 hl9 B9 b4)
     |((with_reducible refine Zah 9 ?_);refine Zg _ rfl _ _ _ rfl b9 _ (cz k).toArray rfl rfl HB9.out (Zcx _ (Zaq HOK.out)) (Zkc _ (Zaq HOK.out)) (all_oneCell_toArray (Zcq HOK.out)) ?_;intro w5 B5 r5;have hq5:=Ze (Zb (Zb HB2.out HB3.out) HB4.out) r5 (by have:=Hg9.out;have:=HB3.out.size;have:=HB2.out.size;omega);have HD5:=Za (HDP.out.hold hq5 (by have:=Hg9.out;have:=HB3.out.size;have:=HB2.out.size;omega) B5);have c1:=HD5.out.c01.2;clear hq5 B5 r5)
     |(go_at_call 112;rw [HY.out];refine (HD5.out.use (fun vp vf q=>Zyu q j HC.out)).mono ?_;rintro e w6 ⟨rfl,d6⟩;have HD6:=Za d6;clear d6))
    have hst:=Zge HW1.out HC.out;have htt:=Yak cs1 j (by have:=HC.out;omega);have hmm:mea w6=tot (lessC cs1 j):=by
     obtain ⟨vp1,vf1,q1,_⟩:=HD6.out;exact HME.out _ _ _ _ _ q1
    have hdl:Dl w S g gs room (lessC cs1 j) fr1 (.slice (some ⟨b,0,none⟩) st1.length c) st1.reverse [] w6:=by
     have:=HD6.out.less (Y:=[]) (fun _ h=>by cases h);rw [HM.out] at this;exact this
    refine ⟨⟨_,n,lessC cs1 j,fr1,st1,some ⟨b,0,none⟩,c,rfl,rfl,by rw [HM.out],hdl,hst.wf,?_,?_,fun cs' fr' q hq=>HRR.out _ _ _ (Run.keep HC.out hq)⟩,?_⟩
    ·have:=hst.noc;have:=HNN.out;omega
    ·have:=HLL.out;simp only [List.length_cons] at this;omega
    ·rw [hmm,HME0.out];omega
   ·have HC:Hid (cc cs1 j=1):=heq.symm;clear hcj heq;have HZ1:Hid (Wz (cs1.set j (0,zc))):=HW1.out.z.set j 0 zc Zsv (fun _=>rfl);have hsides:=Wf.sides HW1.out.ab HW1.out.le j (by have:=HC.out;omega);obtain ⟨nl,nr⟩:=HNj.out.side_ne rfl;rw [← HKE.out] at hsides nl nr;have hside:∀q,(q=k.l∨q=k.r)→q=0∨1≤q∧0<cc (cs1.set j (0,zc)) (q-1)∧1≤(ce (cs1.set j (0,zc)) (q-1)).ab∧(ce (cs1.set j (0,zc)) (q-1)).ab≤1073741824:=fun q hq=>by
     by_cases e:q=0
     ·exact .inl e
     ·have h1:=hsides q hq e;have hne:q-1≠j:=fun e2=>by
       rcases hq with e3 | e3
       ·exact nl (by omega)
       ·exact nr (by omega)
      have hjl:=Zbu (cs:=cs1) (i:=j) (by have:=HC.out;omega);have h2:=Yek cs1 (q-1) j (by have:=HC.out;omega) (by rw [← HKE.out];exact hq.elim (fun e=>.inl (by omega)) (fun e=>.inr (by omega)));have h3:=HW1.out.ab (q-1);have h4:=HW1.out.le (q-1);have h5:cc cs1 (q-1)≤1073741824:=by
       obtain ⟨vp1,vf1,q1,_⟩:=HDP.out;exact (HFL.out _ _ _ _ _ q1).2.2 _
      refine .inr ⟨by omega,?_⟩;rw [Zfo cs1 j _ _ hjl,Zdu cs1 j _ _ hjl,if_neg hne,if_neg hne];omega
    have a1:=Zgr (cs1.set j (0,zc)) k.r;have HZ2:Hid (Wz (dnA (cs1.set j (0,zc)) k.r)):=by
     rcases hside k.r (.inr rfl) with e | ⟨e1,e2,e3,e4⟩
     ·have:dnA (cs1.set j (0,zc)) k.r=cs1.set j (0,zc):=by unfold dnA;rw [if_pos e]
      rw [this];exact HZ1
     ·have:dnA (cs1.set j (0,zc)) k.r=setA (cs1.set j (0,zc)) k.r ((ce (cs1.set j (0,zc)) (k.r-1)).ab-1):=by unfold dnA;rw [if_neg (by omega)]
      rw [this];exact HZ1.out.setA _ _ e2
    have HSR:=Za (hside k.r (.inr rfl));have HSL:Hid (k.l=0∨1≤k.l∧0<cc (dnA (cs1.set j (0,zc)) k.r) (k.l-1)∧1≤(ce (dnA (cs1.set j (0,zc)) k.r) (k.l-1)).ab∧(ce (dnA (cs1.set j (0,zc)) k.r) (k.l-1)).ab≤1073741824):=by
     rcases hside k.l (.inl rfl) with e | ⟨e1,e2,e3,e4⟩
     ·exact .inl e
     ·have hne:k.l≠k.r:=by
       rcases HNj.out with hh | hh
       ·have:=hh.l;rw [← HKE.out] at this;omega
       ·rw [← HKE.out] at hh;exact Zlq hh (by omega)
      refine .inr ⟨e1,by rw [a1.cc];exact e2,?_⟩;have hb:k.r-1<(cs1.set j (0,zc)).length∨k.r=0:=by
       rcases hside k.r (.inr rfl) with e | ⟨_,e,_⟩
       ·exact .inr e
       ·exact .inl (Zbu e)
      rw [Zoj _ _ _ hb,if_neg (by omega)];exact ⟨by omega,by omega⟩
    have HKL:Hid ((cz k)[69]?=some (.int .i64 (k.l:Int))∧(cz k)[70]?=some (.int .i64 (k.r:Int))):=⟨(Zav k HOK.out).2.2.2.2.2.1,(Zav k HOK.out).2.2.2.2.2.2⟩;have HLR:Hid (∀x,(ne0 x).length≤1):=fun x=>by unfold ne0;split <;> simp
    clear hsides nl nr hside a1
    go_wp2_with (first
     |(go_at_call 111;refine (HAT.out _ HB2.out).mono ?_;rintro e w3 ⟨rfl,b3⟩;have HB3:=Za b3;clear b3)
     |((with_reducible refine Zw 9 ?_);refine Zf _ rfl _ rfl _ Zai ?_;intro w4 b9 hg9 hl9 B9 b4;have HB9:=Za B9;have Hg9:=Za hg9;have HB4:=Za b4;clear hg9 hl9 B9 b4)
     |((with_reducible refine Zah 9 ?_);refine Zg _ rfl _ _ _ rfl b9 _ (cz k).toArray rfl rfl HB9.out (Zcx _ (Zaq HOK.out)) (Zkc _ (Zaq HOK.out)) (all_oneCell_toArray (Zcq HOK.out)) ?_;intro w5 B5 r5;have hq5:=Ze (Zb (Zb HB2.out HB3.out) HB4.out) r5 (by have:=Hg9.out;have:=HB3.out.size;have:=HB2.out.size;omega);have HD5:=Za (HDP.out.hold hq5 (by have:=Hg9.out;have:=HB3.out.size;have:=HB2.out.size;omega) B5);have c1:=HD5.out.c01.2;clear hq5 B5 r5)
     |(go_at_call 112;rw [HY.out];refine (HD5.out.use (fun vp vf q=>Zyv q j HC.out)).mono ?_;rintro e w6 ⟨rfl,d6⟩;have HD6:=Za d6;have B6:=d6.held (List.mem_cons_self ..);have e6:=B6.cell 70;simp only [List.getElem?_toArray] at e6;rw [HKL.out.2] at e6;clear d6 B6)
     |(go_at_call 113;have mk:=m1;clear mk;refine (Znv HD7.out HZ2.out k.l HSL.out (by have:=HL1.out;have:=HLR.out k.r;rw [List.length_append,List.length_reverse];omega)).mono ?_;rintro e w8 ⟨a8,q8,c8,rfl,hq8,d8⟩;have HQ8:=Za hq8;have HD8:=Za d8;clear d8 hq8)
     |(go_at_call 113;refine (Znv HD6.out HZ1.out k.r HSR.out (by have:=HL1.out;rw [List.length_reverse];omega)).mono ?_;rintro e w7 ⟨a7,q7,c7,rfl,hq7,d7⟩;clear hq7;have HD7:=Za d7;have B7:=d7.held (List.mem_cons_self ..);have e7:=B7.cell 69;simp only [List.getElem?_toArray] at e7;rw [HKL.out.1] at e7;have m1:Hid True:=trivial;clear d7 B7))
    have hst:=Zet HW1.out HC.out;have htt:=Yal cs1 j HC.out;have hE:(ne0 (ce cs1 j).l++(ne0 (ce cs1 j).r++st1)).reverse=st1.reverse++ne0 k.r++ne0 k.l:=by rw [← HKE.out,List.reverse_append,List.reverse_append,Zxp,Zxp]
    have hF:dnA (dnA (cs1.set j (0,zc)) k.r) k.l=freeC cs1 j:=by unfold freeC;rw [← HKE.out]
    have hd8:=HD8.out;rw [← hE,hF] at hd8;have hq8:=HQ8.out;rw [← hE,List.length_reverse] at hq8;rw [hq8] at hd8;have hmm:mea w8=tot (freeC cs1 j):=by
     obtain ⟨vp1,vf1,q1,_⟩:=hd8;exact HME.out _ _ _ _ _ q1
    refine ⟨⟨_,n+1,freeC cs1 j,fr1++[j+1],ne0 (ce cs1 j).l++(ne0 (ce cs1 j).r++st1),a8,c8,rfl,by go_num,by rw [hq8],hd8.less (fun _ h=>by cases h),hst.wf,?_,?_,fun cs' fr' q hq=>?_⟩,?_⟩
    ·have:=hst.noc;have:=HNN.out;omega
    ·have:=HLL.out;have h1:=HLR.out (ce cs1 j).l;have h2:=HLR.out (ce cs1 j).r;simp only [List.length_cons] at this;simp only [List.length_append,List.length_singleton];omega
    ·have:=HRR.out _ _ _ (Run.free HC.out hq);rwa [show n+(q+1)=n+1+q by omega] at this
    ·rw [hmm,HME0.out];omega
def Hw (w0 w:World) (g gs room:Nat) (cs:Lz) (fr:List Nat):Prop:=(∃vp vf,Stm w g gs vp vf room cs fr∧(∀k∈stB g gs vp vf cs,w0.heap.size≤k)∧Kb w0 w)∧Wf cs []
theorem Zqa (K:Lq) (v:Value) (bs:Lq) (hb:Bytes bs) (hl:bs.length≤1024):LeafOk (lfC (lfD K (vaD bs)) K v bs):=⟨rfl,rfl,rfl,rfl,rfl,rfl,hl,hb⟩
theorem Wf.kinds (w:Wf cs pend) (i:Nat) (hi:0<cc cs i):(ce cs i).kind=1∨(ce cs i).kind=2:=by
 rcases w.tr i hi with h | h
 ·exact .inl h.kind
 ·exact .inr h.kind
theorem Zra (w:Wf cs pend) {h d:Nat} {b:Int} (m:mayP cs (h:Int)) (hf:fsP (sdC cs h) d b=true):SideOk cs d b h:=by
 rcases m.side with e | ⟨h1,h2,h3⟩
 ·exact .inl e
 ·refine .inr ⟨h1,h2,?_⟩;unfold sdC at hf;rw [if_neg (by omega)] at hf;unfold fsP at hf;rcases w.kinds _ h2 with k | k
  ·rw [if_pos k] at hf;exact ⟨by simpa using hf,.inl k⟩
  ·rw [if_neg (by omega),if_pos k] at hf;simp only [Bool.and_eq_true,decide_eq_true_eq] at hf;exact ⟨hf.2,.inr ⟨k,hf.1⟩⟩
theorem Ych (w:Wf cs pend) {h:Nat} (m:mayP cs (h:Int)):(sdC cs h).kind=0↔h=0:=by
 constructor
 ·intro e;rcases m.side with e2 | ⟨h1,h2,h3⟩
  ·exact e2
  ·unfold sdC at e;rw [if_neg (by omega)] at e;rcases w.kinds _ h2 with k | k <;> omega
 ·rintro rfl;rfl
theorem Zye (w:Wf cs pend) {d l r:Nat} {K:Lq} {u:Bool} (hd:d<256) (ml:mayP cs (l:Int)) (mr:mayP cs (r:Int)) (hu:u=true↔Und (sdC cs l).key (sdC cs r).key (d:Int)) (hf:fitP d (sdC cs l) (sdC cs r) u=true) (hK:IsFill (if (sdC cs l).kind=0 then (sdC cs r).key else (sdC cs l).key) d 0 K):InnOk cs (inC (inD (sdD cs l) (sdD cs r)) K ((sdC cs l).sz+(sdC cs r).sz) d l r):=by
 unfold fitP at hf;simp only [Bool.and_eq_true,Bool.or_eq_true,decide_eq_true_eq] at hf;obtain ⟨h1,h2,h3,h4⟩:=hf;refine ⟨rfl,hd,rfl,rfl,Zra w ml h2,Zra w mr h3,rfl,h1,fun hl hr=>?_,?_,rfl⟩
 ·rcases h4 with h4 | h4 | h4
  ·exact absurd ((Ych w ml).1 h4) hl
  ·exact absurd ((Ych w mr).1 h4) hr
  ·exact hu.1 h4
 ·by_cases e:l=0
  ·have:=(Ych w ml).2 e;rw [if_pos this] at hK;show IsFill (if l=0 then _ else _) d 0 K;rw [if_pos e];exact hK
  ·have: ¬(sdC cs l).kind=0:=fun q=>e ((Ych w ml).1 q)
   rw [if_neg this] at hK;show IsFill (if l=0 then _ else _) d 0 K;rw [if_neg e];exact hK
theorem mayP.own (m:mayP cs (h:Int)) (h0:h≠0):0<Go.Proofs.YtgfdgjkbcdmboaaGreatDoor.own cs [] (h-1):=by
 rcases m.side with e | ⟨_,_,e⟩
 ·exact absurd e h0
 ·unfold Go.Proofs.YtgfdgjkbcdmboaaGreatDoor.own;rw [List.count_nil];omega
def e00:Ent:=([],[])
def encP (k:Lq) (v:Value):List Value:=k.map (Value.int .u8)++[v]
theorem Zac (k:Lq) (v:Value) (h:k.length=32):(encP k v).length=33:=by simp [encP,h]
def PrAt (w:World) (v:Value) (V:Nat→Value) (es:List Ent):Prop:=
 ∃a cap,v=.slice a es.length cap∧es.length≤cap∧(0<es.length→∃g off,a=some ⟨g,off,none⟩∧∀i,i<es.length→w.rangeAt g (off+i * 33) (encP (es.getD i e00).1 (V i)))∧
  ∀i,i<es.length→Key (es.getD i e00).1∧Reads w (V i) (es.getD i e00).2
theorem Zdl {cs:List Value} (h:w.rangeAt g o cs) (hb:Kb w w'):w'.rangeAt g o cs:=fun j v hv=>(hb.cell (p:=⟨g,o+j,none⟩) (block_lt_of_cell (h j v hv))).trans (h j v hv)
theorem PrAt.grow {V:Nat→Value} (h:PrAt w v V es) (hb:Kb w w'):PrAt w' v V es:=by
 obtain ⟨a,cap,e,h1,h2,h3⟩:=h;refine ⟨a,cap,e,h1,fun hp=>?_,fun i hi=>⟨(h3 i hi).1,(h3 i hi).2.grow hb⟩⟩;obtain ⟨g,off,ea,hr⟩:=h2 hp;exact ⟨g,off,ea,fun i hi=>Zdl (hr i hi) hb⟩
theorem PrAt.keys {V:Nat→Value} (h:PrAt w v V es):∀e∈es,Key e.1:=by
 intro e he;obtain ⟨_,_,_,_,_,h3⟩:=h;obtain ⟨i,hi,rfl⟩:=List.mem_iff_getElem.1 he;have:=(h3 i hi).1;simpa [List.getD,hi] using this
def lsE:List (Lq)→List Ent→Int
 | _,[]=>0
 | ks,e::r=>if 1024<e.2.length then 4 else if e.1∈ks then 6 else lsE (ks++[e.1]) r
def errB (es:List Ent):Int:=if 4096<es.length then 4 else lsE [] es
theorem Zit:(Tryz.prog.info? 152).map (·.size)=some 33:=by kernel_rfl
theorem Ydx:∃fs,Tryz.prog.underlying 152=some (.struct fs):=⟨_,Tryz.underlying152⟩
theorem Zsy {ops:Array Oper} {rest:List Oper} {op:Oper} {a:Act} {Q:Exit→Act→World→Prop} (w:World) (hgd:op.guard=none) (x:Operand) (ho:op.op=.load 152 x)
  (g o:Nat) (k:Lq) (v:Value) (hx:a.eval x=.pointer (some ⟨g,o,none⟩)) (h:w.rangeAt g o (encP k v)) (hl:k.length=32)
  (hk:wpList Tryz.prog ops Q rest (a.put op.dst (.agg (encP k v).toArray)) w):wpList Tryz.prog ops Q (op::rest) a w:=by
 obtain ⟨fs,hu⟩:=Ydx;exact wpList_load_mid hgd 152 x ho g o hx (encP k v) _ h hu rfl (by rw [Zac k v hl];exact Zit) hk
theorem Zgy {ops:Array Oper} {rest:List Oper} {op:Oper} {a:Act} {Q:Exit→Act→World→Prop} (w:World) (hgd:op.guard=none) (x:Operand) (ho:op.op=.load 34 x)
  (g o:Nat) (k:Lq) (hx:a.eval x=.pointer (some ⟨g,o,none⟩)) (h:w.rangeAt g o (B k).toList) (hl:k.length=32)
  (hk:wpList Tryz.prog ops Q rest (a.put op.dst (.agg (B k))) w):wpList Tryz.prog ops Q (op::rest) a w:=
 wpList_load_mid hgd 34 x ho g o hx (B k).toList _ h Tryz.underlying34 rfl (by rw [Zas,List.length_map,hl];exact Zfq) (by simpa using hk)
theorem Zix {k:Lq} (h:w.rangeAt g o (encP k v)):w.rangeAt g o (B k).toList:=by
 intro j u hu;rw [Zas] at hu;have hj:j<(k.map (Value.int .u8)).length:=(List.getElem?_eq_some_iff.1 hu).1;refine h j u ?_;unfold encP;rw [List.getElem?_append_left hj];exact hu
theorem Yfr {k:Lq} (h:w.rangeAt g o (encP k v)) (hk:k.length=32):w.cell? ⟨g,o+32,none⟩=some v:=by
 refine h 32 v ?_;unfold encP;rw [List.getElem?_append_right (by simp [hk])];simp [hk]
def flatP (its:List (Ent×Value)):List Value:=its.flatMap fun p=>encP p.1.1 p.2
theorem Zuh (its:List (Ent×Value)) (p:Ent×Value):flatP (its++[p])=flatP its++encP p.1.1 p.2:=by simp [flatP]
theorem Zse:∀(its:List (Ent×Value)),(∀p∈its,p.1.1.length=32)→∀(i:Nat) (hi:i<its.length) (j:Nat) (v:Value),(encP its[i].1.1 its[i].2)[j]?=some v→(flatP its)[i * 33+j]?=some v
 | [],_,i,hi,_,_,_=>by simp at hi
 | p::r,hl,0,_,j,v,h=>by
  have h:(encP p.1.1 p.2)[j]?=some v:=h;have hj:=(List.getElem?_eq_some_iff.1 h).1;simp only [flatP,List.flatMap_cons,Nat.zero_mul,Nat.zero_add];rw [List.getElem?_append_left hj];exact h
 | p::r,hl,i+1,hi,j,v,h=>by
  have ih:=Zse r (fun q hq=>hl q (by simp [hq])) i (by simpa using hi) j v (by simpa using h);have e1:(encP p.1.1 p.2).length=33:=Zac _ _ (hl p (by simp));simp only [flatP,List.flatMap_cons];rw [List.getElem?_append_right (by omega),show (i+1) * 33+j-(encP p.1.1 p.2).length=i * 33+j by omega];exact ih
theorem Zgn:∃i z,Tryz.prog.info? 152=some i∧i.zero=some z∧i.size=33∧i.bytes=56∧z.cells.size=33:=⟨_,_,rfl,rfl,rfl,rfl,rfl⟩
theorem Zkj {ops:Array Oper} {rest:List Oper} {op:Oper} {a:Act} {Q:Exit→Act→World→Prop} (w:World) (hgd:op.guard=none) (x:Operand) (ho:op.op=.buildSlice 124 1 #[(0,x)])
  (k:Lq) (v:Value) (hx:a.eval x=.agg (encP k v).toArray) (hl:k.length=32)
  (hk:wpList Tryz.prog ops Q rest (a.put op.dst (.slice (some ⟨w.heap.size,0,none⟩) 1 1)) (w.alloc (.cells (encP k v).toArray 152))):wpList Tryz.prog ops Q (op::rest) a w:=by
 refine wpList_plain hgd fun K hK=>?_
 obtain ⟨i,z,hi,hz,hs,_,hzs⟩:=Zgn;have hrun:=run_buildSlice (P:=Tryz.prog) w 124 152 1 #[(0,.agg (encP k v).toArray)] (encP k v).toArray i z Tryz.underlying124 hi hz (by rw [hs];omega) (by rw [hs];omega) (by
  rw [hs];obtain ⟨zs,hzz,hzl⟩:∃zs:List Value,(Array.range (1 * 33)).map (z.cells[· % z.cells.size]!)=zs.toArray∧zs.length=33:=⟨_,(Array.toArray_toList).symm,by simp⟩;rw [hzz];have:=Zbl (fun i=>some (i * 33,33)) 0 0 33 (.agg (encP k v).toArray) (encP k v) zs [] rfl rfl (Zac k v hl) (by omega);rw [show (#[(0,Value.agg (encP k v).toArray)]:Array (Nat×Value)).toList=[(0,Value.agg (encP k v).toArray)] from rfl,this,Instr.fill];simp [hzl])
 unfold Oper.wp execOp;simp only [ho,List.map_toArray,List.map_cons,List.map_nil,hx,Sem.run_bind,hrun,Result.andThen_ok,Sem.run_pure];exact hK _ _ hk
theorem Zov {ops:Array Oper} {rest:List Oper} {o:Oper} {a:Act} {Q:Exit→Act→World→Prop} (w:World) (hgd:o.guard=none) (s x:Operand)
  (hop:o.op=.call { callee:=.builtin .append,args:= #[s,x],argTypes:= #[124,124]})
  (base:Nat) (v:Value) (n:Nat) (xs:List Value) (hown:w.ownsRow base 152 33 v n xs) (hs:a.eval s=v) (g:Nat) (k:Lq) (u:Value) (hx:a.eval x=.slice (some ⟨g,0,none⟩) 1 1)
  (hb:Blk w g 152 (encP k u).toArray) (hl:k.length=32) (h1:u.oneCell'=true) (hn:n≤4096) (hbase:base≤w.heap.size)
  (h:∀v' w',w'.ownsRow base 152 33 v' (n+1) (xs++encP k u)→w.grownBy w' v.ownBlock→wpList Tryz.prog ops Q rest (a.put o.dst v') w'):
  wpList Tryz.prog ops Q (o::rest) a w:=by
 obtain ⟨i,z,hi,hz,hsz,hby,hzs⟩:=Zgn;refine wpList_append_own w hgd s x _ hop base _ i z 33 56 Tryz.underlying124 hi hz hsz hby hzs (by omega) v n xs hs hown ⟨g,0,none⟩ 1 1 (encP k u) hx (by rw [Zac k u hl]) ?_ ?_ (by simp only [maxLen];omega) (by omega) hbase (fun v' w' h1 h2 _=>h v' w' h1 h2)
 ·intro j q hq;rw [Addr.add_lit,Nat.zero_add,hb.cell];simpa using hq
 ·intro q hq;unfold encP at hq;rcases List.mem_append.1 hq with hq | hq
  ·obtain ⟨z,_,rfl⟩:=List.mem_map.1 hq;rfl
  ·obtain rfl:q=u:=by simpa using hq
   exact h1
theorem Zja (h:w.ownsRow base 152 33 v n xs) (hb:Kb w w'):w'.ownsRow base 152 33 v n xs:=by
 refine ⟨h.1,?_⟩;rcases h.2 with hn | ⟨g,cap,cur,rfl,hb2,hgg,rest⟩
 ·exact .inl hn
 ·exact .inr ⟨g,cap,cur,rfl,hb2,(hb.block g (Array.getElem?_eq_some_iff.1 hgg).1).trans hgg,rest⟩
theorem Zih {its:List (Ent×Value)} (h:w.ownsRow base 152 33 v its.length (flatP its)) (hk:∀p∈its,Key p.1.1) (hr:∀p∈its,Reads w p.2 p.1.2):
  PrAt w v (fun i=>(its.getD i (e00,undef)).2) (its.map (·.1)):=by
 have hget:∀i (hi:i<its.length),(its.map (·.1)).getD i e00=its[i].1∧its.getD i (e00,undef)=its[i]:=fun i hi=>⟨by simp [List.getD,hi],by simp [List.getD,hi]⟩
 have hlast:∀i,i<(its.map (·.1)).length→Key ((its.map (·.1)).getD i e00).1∧Reads w (its.getD i (e00,undef)).2 ((its.map (·.1)).getD i e00).2:=by
  intro i hi;rw [List.length_map] at hi;obtain ⟨e1,e2⟩:=hget i hi;rw [e1,e2];exact ⟨hk _ (List.getElem_mem hi),hr _ (List.getElem_mem hi)⟩
 rcases h.2 with ⟨rfl,hn⟩ | ⟨g,cap,cur,rfl,_,hg,hcap,_,hsz,htake⟩
 ·exact ⟨none,0,by rw [List.length_map,hn],by rw [List.length_map];omega,fun hp=>by rw [List.length_map] at hp;omega,hlast⟩
 ·refine ⟨_,cap,by rw [List.length_map],by rw [List.length_map];exact hcap,fun _=>⟨g,0,rfl,fun i hi j u hu=>?_⟩,hlast⟩;rw [List.length_map] at hi;obtain ⟨e1,e2⟩:=hget i hi;rw [e1] at hu;simp only [e2] at hu;have h1:=Zse its (fun p hp=>(hk p hp).1) i hi j u hu;rw [← htake] at h1;have h2:(cur.toList)[i * 33+j]?=some u:=by
   rw [List.getElem?_take] at h1;split at h1
   ·exact h1
   ·cases h1
  rw [cell_of_row w g _ cur _ _ hg,Nat.zero_add];simpa using h2
theorem Zwy (h:Reads w v zs):v.oneCell'=true:=by
 obtain ⟨a,c,rfl,_⟩:=h;rfl
end Go.Proofs.YtgfdgjkbcdmboaaGreatDoor
