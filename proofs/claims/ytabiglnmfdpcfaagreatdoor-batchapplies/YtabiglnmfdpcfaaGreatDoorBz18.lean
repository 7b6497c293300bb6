/- Calls of a store, as contracts: Drop. -/
import Derived.Test.YtabiglnmfdpcfaaGreatDoorBz01
import Derived.Test.YtabiglnmfdpcfaaGreatDoorBz17
import Derived.Test.YtabiglnmfdpcfaaGreatDoorBz07
namespace Go.Proofs.YtabiglnmfdpcfaaGreatDoor
variable {a b d g gs h room:Nat}
variable {cs cs' cs1:Lz}
variable {es:List Ent}
variable {fr fr' pend:List Nat}
variable {vf vf' vp vp':Value}
variable {w:World}
set_option maxHeartbeats 4000000
set_option maxRecDepth 20000
open Go.RowKit

theorem tot_one (h:Stm w g gs vp vf room cs fr) (k:Stm w g gs vp' vf' room cs' fr'):tot cs=tot cs':=by
  have e1:vp=vp':=Option.some.inj (h.sl.c2.symm.trans k.sl.c2);subst e1;have hp:=h.sl.pls;have kp:=k.sl.pls;obtain ⟨a1,c1,q1⟩:=lst_slice hp;obtain ⟨a2,c2,q2⟩:=lst_slice kp;rw [q1] at q2;injection q2 with _ e2 _;have hl:cs.length=cs'.length:=by simpa using e2
  have hc:∀i,i<cs.length→cc cs i=cc cs' i:=fun i hi=>by
    obtain ⟨b,c,e,_⟩:=lst_pos hp (by simp;omega);have hp':=hp;have kp':=kp;rw [e] at hp';have e3:vp=.slice (some ⟨b,0,none⟩) (cs'.map pl).length c:=by rw [e];simp [hl]
    rw [e3] at kp';have hm:i * (71+1)<(cs.map pl).length * (71+1):=Nat.mul_lt_mul_of_pos_right (by simpa using hi) (by omega);have c1:=lst_cell hp' (i * (71+1)) hm;have c2:=lst_cell kp' (i * (71+1)) (by simpa [hl] using hm);rw [flatS_count h.sl.wid i (by simpa using hi)] at c1;rw [flatS_count k.sl.wid i (by simp;omega)] at c2;rw [c1] at c2;injection c2 with c2;injection c2 with _ c2;rw [cnt_pl,cnt_pl] at c2;omega
  unfold tot;congr 1
  apply List.ext_getElem (by simpa using hl);intro i h1 h2;have:=hc i (by simpa using h1);have h1':i<cs.length:=by simpa using h1
  have h2':i<cs'.length:=by simpa using h2
  simpa [cc,h1',h2'] using this

theorem tot_fun (g gs room:Nat):∃mea:World→Nat,∀w vp vf cs fr,Stm w g gs vp vf room cs fr→mea w=tot cs:=by
  have h:∀w:World,∃m:Nat,∀vp vf cs fr,Stm w g gs vp vf room cs fr→m=tot cs:=fun w=>by
    by_cases e:∃vp vf cs fr,Stm w g gs vp vf room cs fr
    · obtain ⟨vp,vf,cs,fr,h⟩:=e
      exact ⟨tot cs,fun vp' vf' cs' fr' k=>tot_one h k⟩
    · exact ⟨0,fun vp vf cs fr k=>absurd ⟨vp,vf,cs,fr,k⟩ e⟩
  exact ⟨fun w=>Classical.choose (h w),fun w=>Classical.choose_spec (h w)⟩

theorem drop_more (s:Stm w g gs vp vf room cs fr) (i:Nat) (hc:1<cc cs i):Kc 95 #[.pointer (some ⟨gs,0,none⟩),.int .i64 ((i+1:Nat):Int)] w fun e w'=>e=.returned (.tuple #[.bool false,.int .i64 0])∧STurn w g gs (stB g gs vp vf cs) room (lessC cs i) fr w':=by
  refine (drop_moreC gs vp vf room _ fr _ i w s.sl rfl (by rw [cnt_pl];omega) (by rw [cnt_pl];exact hc)).mono ?_;rintro e w' ⟨rfl,t⟩;have hl:=cc_lt (cs:=cs) (i:=i) (by omega);rw [cnt_pl,thg_pl cs i hl,map_set] at t;refine ⟨rfl,s.turn' (Below.refl _ _) t (fun j=>.inr ⟨j,?_⟩)⟩;have e:ce (lessC cs i) j=ce cs j:=by
    unfold lessC;rw [ce_set cs i j _ hl];split
    · next e=>rw [e]
    · rfl
  rw [e];exact ⟨rfl,rfl⟩

theorem drop_last (s:Stm w g gs vp vf room cs fr) (i:Nat) (hc:cc cs i=1):Kc 95 #[.pointer (some ⟨gs,0,none⟩),.int .i64 ((i+1:Nat):Int)] w fun e w'=>e=.returned (.tuple #[.bool true,.int .i64 0])∧STurn w g gs (stB g gs vp vf cs) room (cs.set i (0,zc)) (fr++[i+1]) w':=by
  refine (drop_lastC gs vp vf room _ fr _ i w s.sl rfl (by rw [cnt_pl];omega) (by rw [cnt_pl];exact hc)).mono ?_;rintro e w' ⟨rfl,t⟩;have hl:=cc_lt (cs:=cs) (i:=i) (by omega);rw [← cz_zc,map_set] at t;refine ⟨rfl,s.turn' (Below.refl _ _) t (fun j=>?_)⟩;rw [ce_set cs i j _ hl];split
  · exact .inl ⟨rfl,rfl⟩
  · exact .inr ⟨j,rfl,rfl⟩

theorem dropS_miss (s:Stm w g gs vp vf room cs fr) (hw:Wf cs pend) (h:Int) (hm:cot cs h≤(cat cs h).ab):Kc 46 #[.pointer (some ⟨g,0,none⟩),.int .i64 h] w fun e w'=>e=.returned (.tuple #[.int .i64 0,.int .i64 7])∧Kb w w':=by
  have c0:=s.c0;have HH:=hidden (held_any (vw_ok s hw) h);rw [show cot cs h-(cat cs h).ab=0 by omega] at HH;clear s hw hm;go_enter Tryz.func46,Tryz.ntmps46
  go_wp2_with (first
    |(go_at_call 33;refine (madeS_ok g _ c0).mono ?_;rintro e w' ⟨rfl,hx⟩;rw [hx];clear hx w')
    |(go_at_call 22;refine HH.out.mono ?_;rintro e w1 ⟨rfl,b1⟩))
  go_ret2;exact ⟨rfl,b1⟩

theorem ne0_rev (h:Nat):(ne0 h).reverse=ne0 h:=by
  unfold ne0;split <;> rfl

theorem lst_one (w:World) (b:Nat) (x:Nat) (h:Blk w b 3 #[.int .i64 (x:Int)]):Lst w 3 1 (.slice (some ⟨b,0,none⟩) 1 1) 1 (nats [x]):=⟨by simp [nats],.inr ⟨b,1,_,rfl,Nat.zero_le _,h,by omega,by decide,by simp,by simp [nats]⟩⟩

theorem dropS_ok (s:Stm w g gs vp vf room cs fr) (hw:Wf cs []) (i:Nat) (ho:0<own cs [] i):Kc 46 #[.pointer (some ⟨g,0,none⟩),.int .i64 ((i+1:Nat):Int)] w fun e w'=>∃cs' fr' n,Run cs fr [i+1] cs' fr' n∧e=.returned (.tuple #[.int .i64 (n:Int),.int .i64 0])∧STurn w g gs (stB g gs vp vf cs) room cs' fr' w':=by
  have c0:=s.c0;have hcat:cat cs (((i+1:Nat):Int))=ce cs i:=by rw [cat_nat];rfl
  have hcot:cot cs (((i+1:Nat):Int))=cc cs i:=by unfold cot;rw [if_pos (by omega),show ((i+1:Nat):Int)-1=(i:Int) by omega,Int.toNat_natCast]
  have HH:=hidden (held_any (vw_ok s hw) ((i+1:Nat):Int));rw [hcat,hcot] at HH;obtain ⟨q,hq⟩:∃q,q=cc cs i-(ce cs i).ab:=⟨_,rfl⟩;rw [← hq] at HH;have hq0:((q:Int) == 0)=false:=by
    have h1:=hw.own i;rw [List.count_nil] at h1;simp;omega
  have HW1:=hidden (hw.less i ho);obtain ⟨mea,hmea⟩:=tot_fun g gs room;have HME:=hidden hmea;have HFL:Hid (∀w' vp' vf' cs' fr',Stm w' g gs vp' vf' room cs' fr'→fr'.length≤65536∧noc cs'≤65536∧∀j,cc cs' j≤1073741824):=fun w' vp' vf' cs' fr' t=>by
    have h1:=t.sl.inv.frlen;have h2:=t.sl.inv.len;have h3:=t.sl.inv.r2;have h4:=t.sl.inv.sum;refine ⟨by omega,?_,fun j=>?_⟩
    · show occs _≤_
      omega
    · have:=t.sl.inv.most j
      rwa [cnt_pl] at this
  have HS:=hidden s;obtain ⟨h,hh⟩:∃h:Int,h=((i+1:Nat):Int):=⟨_,rfl⟩;rw [← hh] at HH;rw [← hh];have HHH:=hidden hh;obtain ⟨S,hS⟩:∃S,S=stB g gs vp vf cs:=⟨_,rfl⟩;rw [← hS];have HSS:=hidden hS;clear s hw ho hcat hcot hq hmea hh hS;go_enter Tryz.func46,Tryz.ntmps46
  go_wp2_with (first
    |(go_at_call 33;refine (madeS_ok g _ c0).mono ?_;rintro e w' ⟨rfl,hx⟩;rw [hx];clear hx w')
    |(go_at_call 22;refine HH.out.mono ?_;rintro e w1 ⟨rfl,b1⟩;have Hb1:=hidden b1;clear b1))
  have HD0:Hid (Dl w S g gs room cs fr (.slice (some ⟨w1.heap.size,0,none⟩) 1 1) [i+1] [] (w1.alloc (.cells #[.int .i64 h] 3))):=by
    have b2:=grow_trans Hb1.out (grow_alloc w1 (.cells #[.int .i64 h] 3));rw [HSS.out];refine ⟨vp,vf,HS.out.grow b2,Mod.of_below b2 _,fun _ hk=>.inl hk,?_,fun k hk=>?_,fun x hx=>by cases hx⟩
    · refine lst_one _ _ (i+1) ?_
      rw [← HHH.out];exact Blk.new _ _ _
    · simp only [Value.ownBlock,Option.some.injEq] at hk
      subst hk;refine ⟨Hb1.out.size,fun e=>?_⟩;have:=(HS.out.grow Hb1.out).lts _ e;omega
  have HI0:Hid (Wf cs [i+1]∧0+noc cs≤65536∧1≤fr.length+1∧∀cs' fr' m,Run cs fr [i+1] cs' fr' m→Run cs fr [i+1] cs' fr' (0+m)):=⟨HW1.out,by have:=(HFL.out _ _ _ _ _ HS.out).2.1;omega,by omega,fun _ _ m h=>by rwa [Nat.zero_add]⟩;clear HS HW1 HHH Hb1;generalize w1.alloc (.cells #[.int .i64 h] 3)=w2 at *;generalize w1.heap.size=b0 at *
  go_loopw [1,6,7] (fun hv fv nv wr=>∃(h1:Int) (n:Nat) (cs1:Lz) (fr1 st:List Nat) (a:Option Addr) (c:Nat),hv=.int .i64 h1∧fv=.int .i64 (n:Int)∧nv=.slice a st.length c∧Hid (Dl w S g gs room cs1 fr1 (.slice a st.length c) st.reverse [] wr)∧Hid (Wf cs1 st∧n+noc cs1≤65536∧st.length≤fr1.length+1∧∀cs' fr' m,Run cs1 fr1 st cs' fr' m→Run cs fr [i+1] cs' fr' (n+m))) (fun _ _ _ wr=>mea wr)
  case atStart=>exact ⟨h,0,cs,fr,[i+1],_,_,rfl,rfl,rfl,HD0,HI0⟩
  case round=>
    clear HD0 HI0;obtain ⟨h1,n,cs1,fr1,st,a,c,rfl,rfl,rfl,hD,hI⟩:=hrel;cases st with
    | nil=>
      have HRUN:=hidden (hI.out.2.2.2 _ _ _ (Run.done cs1 fr1));have HT:=hidden hD.out.turned;clear hD hI;go_wp2
      go_ret2;exact ⟨cs1,fr1,n,HRUN.out,rfl,HT.out⟩
    | cons hj st1=>
      obtain ⟨hW,hN,hLn,hR⟩:=hI.out;obtain ⟨j,rfl⟩:∃j,hj=j+1:=⟨hj-1,by have:=hW.pos hj (by simp);omega⟩;have hcj:1≤cc cs1 j:=by
        have:=hW.le j;rw [List.count_cons_self] at this;omega
      have hD1:=hD.out;rw [List.reverse_cons] at hD1;obtain ⟨b,c',hv,hcap,hcell⟩:=hD1.last;rw [List.length_reverse] at hv hcap hcell;injection hv with e1 e2 e3;subst e1;subst e3;have HDP:Hid (Dl w S g gs room cs1 fr1 (.slice (some ⟨b,0,none⟩) st1.length c) st1.reverse [] wr):=by
        have h0:=hD1;rw [show ((j+1)::st1).length=(st1.reverse++[j+1]).length by simp] at h0;have h1:=h0.pop;rw [List.length_reverse] at h1;exact h1
      have hFL:fr1.length≤65536:=by
        obtain ⟨vp1,vf1,q1,_⟩:=hD.out;exact (HFL.out _ _ _ _ _ q1).1
      have HNj:=hidden (hW.tr j (by omega));have HOK:=hidden (hW.ok j);have HAT:Hid (Kr wr 37 #[.pointer (some ⟨g,0,none⟩),.int .i64 ((j+1:Nat):Int)] (.agg (cz (ce cs1 j)).toArray)):=fun w' hb=>by
        obtain ⟨vp1,vf1,q1,_⟩:=hD.out;have:=(vw_ok q1 hW).atv w' ((j+1:Nat):Int) hb;rwa [cat_nat] at this
      have hl1:st1.length≤65537:=by simp only [List.length_cons] at hLn;omega
      have HW1:=hidden hW;have HRR:=hidden hR;have HNN:=hidden hN;have HLL:=hidden hLn;have HL1:=hidden hl1;have HME0:Hid (mea wr=tot cs1):=by
        obtain ⟨vp1,vf1,q1,_⟩:=hD.out;exact HME.out _ _ _ _ _ q1
      obtain ⟨y,hy⟩:∃y:Int,y=((j+1:Nat):Int):=⟨_,rfl⟩;rw [← hy] at hcell HAT;have HY:=hidden hy;obtain ⟨k,hk⟩:∃k,k=ce cs1 j:=⟨_,rfl⟩;rw [← hk] at HAT HOK;have HKE:=hidden hk;obtain ⟨m,hm⟩:∃m,m=st1.length:=⟨_,rfl⟩;rw [← hm] at hcap hcell HDP hl1;have HM:=hidden hm;have i0:(0:Int)≤(m:Int):=by omega
      have i1:(m:Int)<(m:Int)+1:=by omega
      have i1':(m:Int)<((m+1:Nat):Int):=by omega
      have i2:(m:Int)≤(c:Int):=by omega
      have i3:(0:Int)<((m+1:Nat):Int):=by omega
      have hwm:wrap64 (m:Int)=(m:Int):=Go.IntWalk.wrap64_in _ (by omega);rw [List.length_cons,← hm];have hnb:n≤65536:=by omega
      have hwn:wrap64 ((n:Int)+1)=((n+1:Nat):Int):=by rw [Go.IntWalk.wrap64_in _ (by omega)];rfl
      have HFR:=hidden hFL;clear hD hI hW hN hLn hR hD1 hy hk hm e2 hl1 hFL hnb
      go_wp2_with fail
      go_quiet (fail)
      have HB2:Hid (Kb wr (wr.drewN nq)):=below_drewN (Below.refl _ _) nq;generalize wr.drewN nq=w2' at *;rcases Nat.lt_or_eq_of_le hcj with hgt | heq
      · have HC:=hidden hgt
        clear hcj hgt
        go_wp2_with (first
          |(go_at_call 37;refine (HAT.out _ HB2.out).mono ?_;rintro e w3 ⟨rfl,b3⟩;have HB3:=hidden b3;clear b3)
          |((with_reducible refine at_ald 9 ?_);refine wpList_al _ rfl _ rfl _ zero_thC ?_;intro w4 b9 hg9 hl9 B9 b4;have HB9:=hidden B9;have Hg9:=hidden hg9;have HB4:=hidden b4;clear hg9 hl9 B9 b4)
          |((with_reducible refine at_st 9 ?_);refine wpList_sto _ rfl _ _ _ rfl b9 _ (cz k).toArray rfl rfl HB9.out (xszC _ (cz_th HOK.out)) (xzsC _ (cz_th HOK.out)) (all_oneCell_toArray (cz_one HOK.out)) ?_;intro w5 B5 r5;have hq5:=below_row (grow_trans (grow_trans HB2.out HB3.out) HB4.out) r5 (by have:=Hg9.out;have:=HB3.out.size;have:=HB2.out.size;omega);have HD5:=hidden (HDP.out.hold hq5 (by have:=Hg9.out;have:=HB3.out.size;have:=HB2.out.size;omega) B5);have c1:=HD5.out.c01.2;clear hq5 B5 r5)
          |(go_at_call 95;rw [HY.out];refine (HD5.out.use (fun vp vf q=>drop_more q j HC.out)).mono ?_;rintro e w6 ⟨rfl,d6⟩;have HD6:=hidden d6;clear d6))
        have hst:=step_less HW1.out HC.out;have htt:=tot_less cs1 j (by have:=HC.out;omega);have hmm:mea w6=tot (lessC cs1 j):=by
          obtain ⟨vp1,vf1,q1,_⟩:=HD6.out;exact HME.out _ _ _ _ _ q1
        have hdl:Dl w S g gs room (lessC cs1 j) fr1 (.slice (some ⟨b,0,none⟩) st1.length c) st1.reverse [] w6:=by
          have:=HD6.out.less (Y:=[]) (fun _ h=>by cases h);rw [HM.out] at this;exact this
        refine ⟨⟨_,n,lessC cs1 j,fr1,st1,some ⟨b,0,none⟩,c,rfl,rfl,by rw [HM.out],hdl,hst.wf,?_,?_,fun cs' fr' q hq=>HRR.out _ _ _ (Run.keep HC.out hq)⟩,?_⟩
        · have:=hst.noc
          have:=HNN.out;omega
        · have:=HLL.out
          simp only [List.length_cons] at this;omega
        · rw [hmm,HME0.out]
          omega
      · have HC:Hid (cc cs1 j=1):=heq.symm
        clear hcj heq;have HZ1:Hid (Wz (cs1.set j (0,zc))):=HW1.out.z.set j 0 zc zc_ok (fun _=>rfl);have hsides:=Wf.sides HW1.out.ab HW1.out.le j (by have:=HC.out;omega);obtain ⟨nl,nr⟩:=HNj.out.side_ne rfl;rw [← HKE.out] at hsides nl nr;have hside:∀q,(q=k.l∨q=k.r)→q=0∨1≤q∧0<cc (cs1.set j (0,zc)) (q-1)∧1≤(ce (cs1.set j (0,zc)) (q-1)).ab∧(ce (cs1.set j (0,zc)) (q-1)).ab≤1073741824:=fun q hq=>by
          by_cases e:q=0
          · exact .inl e
          · have h1:=hsides q hq e
            have hne:q-1≠j:=fun e2=>by
              rcases hq with e3 | e3
              · exact nl (by omega)
              · exact nr (by omega)
            have hjl:=cc_lt (cs:=cs1) (i:=j) (by have:=HC.out;omega);have h2:=ns_pos cs1 (q-1) j (by have:=HC.out;omega) (by rw [← HKE.out];exact hq.elim (fun e=>.inl (by omega)) (fun e=>.inr (by omega)));have h3:=HW1.out.ab (q-1);have h4:=HW1.out.le (q-1);have h5:cc cs1 (q-1)≤1073741824:=by
              obtain ⟨vp1,vf1,q1,_⟩:=HDP.out;exact (HFL.out _ _ _ _ _ q1).2.2 _
            refine .inr ⟨by omega,?_⟩;rw [cc_set cs1 j _ _ hjl,ce_set cs1 j _ _ hjl,if_neg hne,if_neg hne];omega
        have a1:=dnA_of (cs1.set j (0,zc)) k.r;have HZ2:Hid (Wz (dnA (cs1.set j (0,zc)) k.r)):=by
          rcases hside k.r (.inr rfl) with e | ⟨e1,e2,e3,e4⟩
          · have:dnA (cs1.set j (0,zc)) k.r=cs1.set j (0,zc):=by unfold dnA;rw [if_pos e]
            rw [this];exact HZ1
          · have:dnA (cs1.set j (0,zc)) k.r=setA (cs1.set j (0,zc)) k.r ((ce (cs1.set j (0,zc)) (k.r-1)).ab-1):=by unfold dnA;rw [if_neg (by omega)]
            rw [this];exact HZ1.out.setA _ _ e2
        have HSR:=hidden (hside k.r (.inr rfl));have HSL:Hid (k.l=0∨1≤k.l∧0<cc (dnA (cs1.set j (0,zc)) k.r) (k.l-1)∧1≤(ce (dnA (cs1.set j (0,zc)) k.r) (k.l-1)).ab∧(ce (dnA (cs1.set j (0,zc)) k.r) (k.l-1)).ab≤1073741824):=by
          rcases hside k.l (.inl rfl) with e | ⟨e1,e2,e3,e4⟩
          · exact .inl e
          · have hne:k.l≠k.r:=by
              rcases HNj.out with hh | hh
              · have:=hh.l
                rw [← HKE.out] at this;omega
              · rw [← HKE.out] at hh
                exact sides_ne hh (by omega)
            refine .inr ⟨e1,by rw [a1.cc];exact e2,?_⟩;have hb:k.r-1<(cs1.set j (0,zc)).length∨k.r=0:=by
              rcases hside k.r (.inr rfl) with e | ⟨_,e,_⟩
              · exact .inr e
              · exact .inl (cc_lt e)
            rw [dnA_ab _ _ _ hb,if_neg (by omega)];exact ⟨by omega,by omega⟩
        have HKL:Hid ((cz k)[69]?=some (.int .i64 (k.l:Int))∧(cz k)[70]?=some (.int .i64 (k.r:Int))):=⟨(cz_at k HOK.out).2.2.2.2.2.1,(cz_at k HOK.out).2.2.2.2.2.2⟩;have HLR:Hid (∀x,(ne0 x).length≤1):=fun x=>by unfold ne0;split <;> simp
        clear hsides nl nr hside a1
        go_wp2_with (first
          |(go_at_call 37;refine (HAT.out _ HB2.out).mono ?_;rintro e w3 ⟨rfl,b3⟩;have HB3:=hidden b3;clear b3)
          |((with_reducible refine at_ald 9 ?_);refine wpList_al _ rfl _ rfl _ zero_thC ?_;intro w4 b9 hg9 hl9 B9 b4;have HB9:=hidden B9;have Hg9:=hidden hg9;have HB4:=hidden b4;clear hg9 hl9 B9 b4)
          |((with_reducible refine at_st 9 ?_);refine wpList_sto _ rfl _ _ _ rfl b9 _ (cz k).toArray rfl rfl HB9.out (xszC _ (cz_th HOK.out)) (xzsC _ (cz_th HOK.out)) (all_oneCell_toArray (cz_one HOK.out)) ?_;intro w5 B5 r5;have hq5:=below_row (grow_trans (grow_trans HB2.out HB3.out) HB4.out) r5 (by have:=Hg9.out;have:=HB3.out.size;have:=HB2.out.size;omega);have HD5:=hidden (HDP.out.hold hq5 (by have:=Hg9.out;have:=HB3.out.size;have:=HB2.out.size;omega) B5);have c1:=HD5.out.c01.2;clear hq5 B5 r5)
          |(go_at_call 95;rw [HY.out];refine (HD5.out.use (fun vp vf q=>drop_last q j HC.out)).mono ?_;rintro e w6 ⟨rfl,d6⟩;have HD6:=hidden d6;have B6:=d6.held (List.mem_cons_self ..);have e6:=B6.cell 70;simp only [List.getElem?_toArray] at e6;rw [HKL.out.2] at e6;clear d6 B6)
          |(go_at_call 96;have mk:=m1;clear mk;refine (letGo_any HD7.out HZ2.out k.l HSL.out (by have:=HL1.out;have:=HLR.out k.r;rw [List.length_append,List.length_reverse];omega)).mono ?_;rintro e w8 ⟨a8,q8,c8,rfl,hq8,d8⟩;have HQ8:=hidden hq8;have HD8:=hidden d8;clear d8 hq8)
          |(go_at_call 96;refine (letGo_any HD6.out HZ1.out k.r HSR.out (by have:=HL1.out;rw [List.length_reverse];omega)).mono ?_;rintro e w7 ⟨a7,q7,c7,rfl,hq7,d7⟩;clear hq7;have HD7:=hidden d7;have B7:=d7.held (List.mem_cons_self ..);have e7:=B7.cell 69;simp only [List.getElem?_toArray] at e7;rw [HKL.out.1] at e7;have m1:Hid True:=trivial;clear d7 B7))
        have hst:=step_free HW1.out HC.out;have htt:=tot_free cs1 j HC.out;have hE:(ne0 (ce cs1 j).l++(ne0 (ce cs1 j).r++st1)).reverse=st1.reverse++ne0 k.r++ne0 k.l:=by rw [← HKE.out,List.reverse_append,List.reverse_append,ne0_rev,ne0_rev]
        have hF:dnA (dnA (cs1.set j (0,zc)) k.r) k.l=freeC cs1 j:=by unfold freeC;rw [← HKE.out]
        have hd8:=HD8.out;rw [← hE,hF] at hd8;have hq8:=HQ8.out;rw [← hE,List.length_reverse] at hq8;rw [hq8] at hd8;have hmm:mea w8=tot (freeC cs1 j):=by
          obtain ⟨vp1,vf1,q1,_⟩:=hd8;exact HME.out _ _ _ _ _ q1
        refine ⟨⟨_,n+1,freeC cs1 j,fr1++[j+1],ne0 (ce cs1 j).l++(ne0 (ce cs1 j).r++st1),a8,c8,rfl,by go_num,by rw [hq8],hd8.less (fun _ h=>by cases h),hst.wf,?_,?_,fun cs' fr' q hq=>?_⟩,?_⟩
        · have:=hst.noc
          have:=HNN.out;omega
        · have:=HLL.out
          have h1:=HLR.out (ce cs1 j).l;have h2:=HLR.out (ce cs1 j).r;simp only [List.length_cons] at this;simp only [List.length_append,List.length_singleton];omega
        · have:=HRR.out _ _ _ (Run.free HC.out hq)
          rwa [show n+(q+1)=n+1+q by omega] at this
        · rw [hmm,HME0.out]
          omega

end Go.Proofs.YtabiglnmfdpcfaaGreatDoor

namespace Go.Proofs.YtabiglnmfdpcfaaGreatDoor
variable {a b d g gs h room:Nat}
variable {cs cs' cs1:Lz}
variable {es:List Ent}
variable {fr fr' pend:List Nat}
variable {vf vf' vp vp':Value}
variable {w:World}
set_option maxHeartbeats 4000000
set_option maxRecDepth 20000
open Go.RowKit

def Hw (w0 w:World) (g gs room:Nat) (cs:Lz) (fr:List Nat):Prop:=(∃vp vf,Stm w g gs vp vf room cs fr∧(∀k∈stB g gs vp vf cs,w0.heap.size≤k)∧Kb w0 w)∧Wf cs []

theorem leaf_ok (K:Lq) (v:Value) (bs:Lq) (hb:Bytes bs) (hl:bs.length≤1024):LeafOk (lfC (lfD K (vaD bs)) K v bs):=⟨rfl,rfl,rfl,rfl,rfl,rfl,hl,hb⟩

theorem Wf.kinds (w:Wf cs pend) (i:Nat) (hi:0<cc cs i):(ce cs i).kind=1∨(ce cs i).kind=2:=by
  rcases w.tr i hi with h | h
  · exact .inl h.kind
  · exact .inr h.kind

theorem side_fit (w:Wf cs pend) {h d:Nat} {b:Int} (m:mayP cs (h:Int)) (hf:fsP (sdC cs h) d b=true):SideOk cs d b h:=by
  rcases m.side with e | ⟨h1,h2,h3⟩
  · exact .inl e
  · refine .inr ⟨h1,h2,?_⟩
    unfold sdC at hf;rw [if_neg (by omega)] at hf;unfold fsP at hf;rcases w.kinds _ h2 with k | k
    · rw [if_pos k] at hf
      exact ⟨by simpa using hf,.inl k⟩
    · rw [if_neg (by omega),if_pos k] at hf
      simp only [Bool.and_eq_true,decide_eq_true_eq] at hf;exact ⟨hf.2,.inr ⟨k,hf.1⟩⟩

theorem kind0 (w:Wf cs pend) {h:Nat} (m:mayP cs (h:Int)):(sdC cs h).kind=0↔h=0:=by
  constructor
  · intro e
    rcases m.side with e2 | ⟨h1,h2,h3⟩
    · exact e2
    · unfold sdC at e
      rw [if_neg (by omega)] at e;rcases w.kinds _ h2 with k | k <;> omega
  · rintro rfl
    rfl

theorem inn_ok (w:Wf cs pend) {d l r:Nat} {K:Lq} {u:Bool} (hd:d<256) (ml:mayP cs (l:Int)) (mr:mayP cs (r:Int)) (hu:u=true↔Und (sdC cs l).key (sdC cs r).key (d:Int)) (hf:fitP d (sdC cs l) (sdC cs r) u=true) (hK:IsFill (if (sdC cs l).kind=0 then (sdC cs r).key else (sdC cs l).key) d 0 K):InnOk cs (inC (inD (sdD cs l) (sdD cs r)) K ((sdC cs l).sz+(sdC cs r).sz) d l r):=by
  unfold fitP at hf;simp only [Bool.and_eq_true,Bool.or_eq_true,decide_eq_true_eq] at hf;obtain ⟨h1,h2,h3,h4⟩:=hf;refine ⟨rfl,hd,rfl,rfl,side_fit w ml h2,side_fit w mr h3,rfl,h1,fun hl hr=>?_,?_,rfl⟩
  · rcases h4 with h4 | h4 | h4
    · exact absurd ((kind0 w ml).1 h4) hl
    · exact absurd ((kind0 w mr).1 h4) hr
    · exact hu.1 h4
  · by_cases e:l=0
    · have:=(kind0 w ml).2 e
      rw [if_pos this] at hK;show IsFill (if l=0 then _ else _) d 0 K;rw [if_pos e];exact hK
    · have: ¬(sdC cs l).kind=0:=fun q=>e ((kind0 w ml).1 q)
      rw [if_neg this] at hK;show IsFill (if l=0 then _ else _) d 0 K;rw [if_neg e];exact hK

theorem mayP.own (m:mayP cs (h:Int)) (h0:h≠0):0<Go.Proofs.YtabiglnmfdpcfaaGreatDoor.own cs [] (h-1):=by
  rcases m.side with e | ⟨_,_,e⟩
  · exact absurd e h0
  · unfold Go.Proofs.YtabiglnmfdpcfaaGreatDoor.own
    rw [List.count_nil];omega

end Go.Proofs.YtabiglnmfdpcfaaGreatDoor

namespace Go.Proofs.YtabiglnmfdpcfaaGreatDoor
variable {a b d g gs h room:Nat}
variable {cs cs' cs1:Lz}
variable {es:List Ent}
variable {fr fr' pend:List Nat}
variable {vf vf' vp vp':Value}
variable {w:World}
set_option maxHeartbeats 4000000
set_option maxRecDepth 20000
open Go.RowKit

def Tre.hs (K:Lq):Nat→Tre→List Nat
  | _,.emp=>[]
  | _,.lf _ _=>[]
  | h,.nd d hl hr l r=>h::(if kb K d=1 then r.hs K hr else l.hs K hl)
def Tre.fin (K:Lq):Nat→Tre→Nat
  | h,.emp=>h
  | h,.lf _ _=>h
  | _,.nd d hl hr l r=>if kb K d=1 then r.fin K hr else l.fin K hl
def Tre.oth (K:Lq):Tre→List Nat
  | .emp=>[]
  | .lf _ _=>[]
  | .nd d hl hr l r=>if kb K d=1 then hl::r.oth K else hr::l.oth K
def Tre.efin (K:Lq):Tre→List Ent
  | .emp=>[]
  | .lf k b=>[(k,b)]
  | .nd d _ _ l r=>if kb K d=1 then r.efin K else l.efin K

structure NdOk (cs:Lz) (d hl hr:Nat) (L R:Tre):Prop where
  dp:d<256
  bL:∀e∈L.ents,kb e.1 d=0
  bR:∀e∈R.ents,kb e.1 d=1
  two:2≤(L.ents++R.ents).length
  kl:(sdC cs hl).kind=2→(sdC cs hl).dp=d+1
  kr:(sdC cs hr).kind=2→(sdC cs hr).dp=d+1

theorem nd_ok (w:Wf cs pend) {d hl hr h:Nat} {L R:Tre} (hT:IsT cs h (.nd d hl hr L R)):NdOk cs d hl hr L R:=by
  obtain ⟨h1,h2,h3,h4,h5,h6,h7,h8⟩:=hT;obtain ⟨i,rfl⟩:∃i,h=i+1:=⟨h-1,by omega⟩;rw [Nat.add_sub_cancel] at h2 h3 h4 h5 h6;have okL:=tree_ok w L hl h7;have okR:=tree_ok w R hr h8;rcases w.tr i h2 with hn | hn
  · have:=hn.kind;omega
  have hdp:=hn.dp;have sl:=hn.sl;have sr:=hn.sr;have hsz:=hn.sz;have htwo:=hn.two;rw [h4] at hdp sl sr;rw [h5] at sl hsz;rw [h6] at sr hsz;have side:∀(q:Nat) (b:Int) (U:Tre),TreeOk cs q U→SideOk cs d b q→(∀e∈U.ents,kb e.1 d=b)∧((sdC cs q).kind=2→(sdC cs q).dp=d+1):=fun q b U ok s=>by
    rcases s with rfl | ⟨q1,q2,q3,q4⟩
    · refine ⟨fun e he=>?_,fun k=>absurd k (by show ¬zc.kind=2;decide)⟩
      have:=ok.sz;rw [show (sdC cs 0).sz=0 from rfl] at this;rw [List.eq_nil_of_length_eq_zero this.symm] at he;cases he
    · have es:sdC cs q=ce cs (q-1):=if_neg (by omega)
      refine ⟨fun e he=>?_,fun k=>?_⟩
      · rw [ok.share (d+1) (by omega) (fun k=>by rcases q4 with q4 | ⟨_,q4⟩ <;> omega) e he d (by omega),es]
        exact q3
      · rw [es] at k ⊢
        rcases q4 with q4 | ⟨_,q4⟩
        · omega
        · exact q4
  obtain ⟨a1,a2⟩:=side hl 0 L okL sl;obtain ⟨b1,b2⟩:=side hr 1 R okR sr;exact ⟨hdp,a1,b1,by rw [List.length_append,← okL.sz,← okR.sz,← hsz];exact htwo,a2,b2⟩

theorem NdOk.side0 {hl hr:Nat} {L R:Tre} (n:NdOk cs d hl hr L R):sideOf (L.ents++R.ents) d 0=L.ents:=by
  rw [sideOf_app,sideOf_all L.ents d 0 (fun e he=>by rw [kbi_in _ _ n.dp];exact n.bL e he),sideOf_none R.ents d 0 1 (fun e he=>by rw [kbi_in _ _ n.dp];exact n.bR e he) (by omega),List.append_nil]
theorem NdOk.side1 {hl hr:Nat} {L R:Tre} (n:NdOk cs d hl hr L R):sideOf (L.ents++R.ents) d 1=R.ents:=by
  rw [sideOf_app,sideOf_none L.ents d 1 0 (fun e he=>by rw [kbi_in _ _ n.dp];exact n.bL e he) (by omega),sideOf_all R.ents d 1 (fun e he=>by rw [kbi_in _ _ n.dp];exact n.bR e he),List.nil_append]

end Go.Proofs.YtabiglnmfdpcfaaGreatDoor

namespace Go.Proofs.YtabiglnmfdpcfaaGreatDoor
variable {a b d g gs h room:Nat}
variable {cs cs' cs1:Lz}
variable {es:List Ent}
variable {fr fr' pend:List Nat}
variable {vf vf' vp vp':Value}
variable {w:World}
set_option maxHeartbeats 4000000
set_option maxRecDepth 20000
open Go.RowKit

structure Ext (cs cs':Lz):Prop where
  len:cs.length≤cs'.length
  cc:∀i,i<cs.length→cc cs' i=cc cs i
  ce:∀i,i<cs.length→ce cs' i=ce cs i
theorem Ext.refl (cs:Lz):Ext cs cs:=⟨Nat.le_refl _,fun _ _=>rfl,fun _ _=>rfl⟩
theorem Ext.trans {a b c:Lz} (h:Ext a b) (k:Ext b c):Ext a c:=⟨Nat.le_trans h.len k.len,fun i hi=>(k.cc i (Nat.lt_of_lt_of_le hi h.len)).trans (h.cc i hi),fun i hi=>(k.ce i (Nat.lt_of_lt_of_le hi h.len)).trans (h.ce i hi)⟩
theorem Ext.snoc (cs:Lz) (p:Nat×Ce):Ext cs (cs++[p]):=⟨by simp,fun i hi=>by rw [cc_snoc,if_neg (by omega)],fun i hi=>by rw [ce_snoc,if_neg (by omega)]⟩
theorem Ext.up (h:Ext cs cs') (x:Nat) (hx:x=0∨cs.length<x):Ext cs (upA cs' x):=by
  have a:=upA_of cs' x;refine ⟨by rw [a.len];exact h.len,fun i hi=>by rw [a.cc];exact h.cc i hi,fun i hi=>?_⟩;rw [← h.ce i hi];unfold upA;split
  · rfl
  · rename_i h0
    by_cases hl:x-1<cs'.length
    · rw [setA_ce cs' x _ i hl,if_neg (by omega)]
    · rw [setA,List.set_eq_of_length_le (by omega)]

theorem IsT.keep {cs cs':Lz} (k:∀i,0<cc cs i→0<cc cs' i∧Core (ce cs i) (ce cs' i)):∀ {T:Tre} {h:Nat},IsT cs h T→IsT cs' h T
  | .emp,_,e=>e
  | .lf _ _,h,⟨h1,h2,h3,h4,h5⟩=>by
    obtain ⟨k1,k2⟩:=k _ h2;refine ⟨h1,k1,?_⟩;rw [k2];exact ⟨h3,h4,h5⟩
  | .nd _ _ _ _ _,h,⟨h1,h2,h3,h4,h5,h6,h7,h8⟩=>by
    obtain ⟨k1,k2⟩:=k _ h2;refine ⟨h1,k1,?_⟩;rw [k2];exact ⟨h3,h4,h5,h6,IsT.keep k h7,IsT.keep k h8⟩
theorem Ext.keep (h:Ext cs cs'):∀i,0<Go.Proofs.YtabiglnmfdpcfaaGreatDoor.cc cs i→0<Go.Proofs.YtabiglnmfdpcfaaGreatDoor.cc cs' i∧Core (Go.Proofs.YtabiglnmfdpcfaaGreatDoor.ce cs i) (Go.Proofs.YtabiglnmfdpcfaaGreatDoor.ce cs' i):=fun i hi=>by
  have hl:=cc_lt hi;rw [h.cc i hl,h.ce i hl];exact ⟨hi,Core.refl _⟩
theorem Ext.sdC (h:Ext cs cs') (x:Nat) (hx:x≤cs.length):sdC cs' x=sdC cs x:=by
  unfold Go.Proofs.YtabiglnmfdpcfaaGreatDoor.sdC;split
  · rfl
  · exact h.ce _ (by omega)

structure Bd (cs:Lz) (es:List Ent) (d h:Nat) (cs':Lz):Prop where
  ext:Ext cs cs'
  wf:Wf cs' []
  tree:∃T,IsT cs' h T∧T.ents.Perm es
  dp:(sdC cs' h).kind=2→(sdC cs' h).dp=d
  own:h≠0→cs.length<h∧h≤cs'.length∧cc cs' (h-1)=1∧(ce cs' (h-1)).ab=0
  num:cs'.length≤cs.length+es.length * (257-d)
  eow:∀i,Go.Proofs.YtabiglnmfdpcfaaGreatDoor.own cs' [] i=Go.Proofs.YtabiglnmfdpcfaaGreatDoor.own cs [] i+(if h=i+1 then 1 else 0)

theorem Bd.nil (w:Wf cs []) (d:Nat):Bd cs [] d 0 cs:=
  ⟨Ext.refl _,w,⟨.emp,rfl,List.Perm.refl _⟩,fun k=>absurd k (by show ¬zc.kind=2;decide),fun h=>absurd rfl h,by simp,fun i=>by simp⟩

theorem Bd.one (w:Wf cs []) (d:Nat) (hd:d≤256) (e:Ent) (v:Value) (hl:e.2.length≤1024) (hb:Bytes e.2) (ok:CeOk (lfC (lfD e.1 (vaD e.2)) e.1 v e.2)):Bd cs [e] d (cs.length+1) (cs++[(1,lfC (lfD e.1 (vaD e.2)) e.1 v e.2)]):=by
  have tk:=(tk_of (cs:=cs) (fr:=[]) (fun _ h=>by cases h) (1,lfC (lfD e.1 (vaD e.2)) e.1 v e.2)).2;have ec:cc (cs++[(1,lfC (lfD e.1 (vaD e.2)) e.1 v e.2)]) cs.length=1:=by rw [cc_snoc,if_pos rfl]
  have ee:ce (cs++[(1,lfC (lfD e.1 (vaD e.2)) e.1 v e.2)]) cs.length=lfC (lfD e.1 (vaD e.2)) e.1 v e.2:=by rw [ce_snoc,if_pos rfl]
  refine ⟨Ext.snoc _ _,w.leaf tk (leaf_ok e.1 v e.2 hb hl) ok rfl,⟨.lf e.1 e.2,⟨by omega,?_,?_,?_,?_⟩,List.Perm.refl _⟩,fun k=>?_,fun _=>⟨by omega,by simp,?_,?_⟩,?_,fun i=>?_⟩
  · rw [Nat.add_sub_cancel,ec];omega
  · rw [Nat.add_sub_cancel,ee];rfl
  · rw [Nat.add_sub_cancel,ee];rfl
  · rw [Nat.add_sub_cancel,ee];rfl
  · rw [sdC,if_neg (by omega),Nat.add_sub_cancel,ee] at k
    exact absurd k (by show ¬(1:Int)=2;omega)
  · rw [Nat.add_sub_cancel,ec]
  · rw [Nat.add_sub_cancel,ee];rfl
  · simp;omega
  · unfold Go.Proofs.YtabiglnmfdpcfaaGreatDoor.own
    rw [cc_snoc,ce_snoc,List.count_nil]
    by_cases q:i=cs.length
    · subst q
      have:cc cs cs.length=0:=by
        cases e:cc cs cs.length with
        | zero=>rfl
        | succ n=>exact absurd (cc_lt (cs:=cs) (i:=cs.length) (by omega)) (by omega)
      rw [if_pos rfl,if_pos rfl,if_pos rfl,this];show 1-(0+0)=0-_+1;omega
    · rw [if_neg q,if_neg q,if_neg (by omega)]
      omega

theorem sideOf_perm (es:List Ent) (d:Nat) (hd:d<256):(sideOf es d 0++sideOf es d 1).Perm es:=by
  have h:=List.filter_append_perm (fun e:Ent=>kbi e.1 d == 0) es;have e:es.filter (fun e:Ent=>!(kbi e.1 d == 0))=sideOf es d 1:=by
    unfold sideOf;congr 1
    funext e
    rw [kbi_in _ _ hd];rcases kb_two e.1 d with q | q <;> rw [q] <;> rfl
  rw [e] at h;exact h

theorem Bd.side (b:Bd cs es (d+1) h cs') (bit:Int) (hb:∀e∈es,kb e.1 d=bit):(sdC cs' h).sz=es.length∧fsP (sdC cs' h) d bit=true∧(h≠0→∃e∈es,∀j,j<d+1→kb e.1 j=kb (sdC cs' h).key j)∧((sdC cs' h).kind=0→h=0):=by
  obtain ⟨T,hT,hp⟩:=b.tree;have ok:=tree_ok b.wf T h hT;have hsz:(sdC cs' h).sz=es.length:=by rw [ok.sz,hp.length_eq]
  by_cases h0:h=0
  · subst h0
    exact ⟨hsz,rfl,fun q=>absurd rfl q,fun _=>rfl⟩
  · have es1:sdC cs' h=ce cs' (h-1):=if_neg h0
    have hex:∃e∈es,∀j,j<d+1→kb e.1 j=kb (sdC cs' h).key j:=by
      obtain ⟨e,he⟩:=List.exists_mem_of_ne_nil _ (ok.pos h0);refine ⟨e,hp.mem_iff.1 he,ok.share (d+1) h0 (fun k=>?_) e he⟩;have:=b.dp (by rw [es1];exact k);rw [es1] at this;omega
    have hk:kb (sdC cs' h).key d=bit:=by
      obtain ⟨e,he,hq⟩:=hex;rw [← hq d (by omega)];exact hb e he
    obtain ⟨_,_,o3,_⟩:=b.own h0;have hkd:=b.wf.kinds (h-1) (by omega);rw [← es1] at hkd;refine ⟨hsz,?_,fun _=>hex,fun q=>by rcases hkd with e | e <;> omega⟩;unfold fsP;rcases hkd with e | e
    · rw [if_pos e]
      simpa using hk
    · rw [if_neg (by omega),if_pos e,b.dp e]
      simpa using hk

theorem Bd.two {cs2:Lz} (hd:d<256) (hn:2≤es.length) (hs:∀x∈es,∀y∈es,∀j,j<d→kb x.1 j=kb y.1 j) (ba:Bd cs (sideOf es d 0) (d+1) a cs1) (bb:Bd cs1 (sideOf es d 1) (d+1) b cs2):
    mayP cs2 (a:Int)∧mayP cs2 (b:Int)∧∃u,(u=true↔Und (sdC cs2 a).key (sdC cs2 b).key (d:Int))∧fitP d (sdC cs2 a) (sdC cs2 b) u=true∧
      ∀K,IsFill (if (sdC cs2 a).kind=0 then (sdC cs2 b).key else (sdC cs2 a).key) d 0 K→Bd cs es d (cs2.length+1) (upA (upA (cs2++[(1,inC (inD (sdD cs2 a) (sdD cs2 b)) K ((sdC cs2 a).sz+(sdC cs2 b).sz) d a b)]) a) b):=by
  have hbit:∀(c:Int) e,e∈sideOf es d c→kb e.1 d=c:=fun c e he=>by
    have:=(List.mem_filter.1 he).2;rw [kbi_in _ _ hd] at this;simpa using this
  have hal:a≤cs1.length:=by
    by_cases h0:a=0
    · omega
    · exact (ba.own h0).2.1
  have hbl:b≤cs2.length:=by
    by_cases h0:b=0
    · omega
    · exact (bb.own h0).2.1
  have hca:sdC cs2 a=sdC cs1 a:=bb.ext.sdC a hal;obtain ⟨a1,a2,a3,a4⟩:=ba.side 0 (hbit 0);obtain ⟨b1,b2,b3,b4⟩:=bb.side 1 (hbit 1);rw [← hca] at a1 a2 a3 a4;have may:∀x:Nat,(x≠0→cc cs2 (x-1)=1∧(ce cs2 (x-1)).ab=0)→mayP cs2 (x:Int):=fun x hx=>by
    by_cases h0:x=0
    · exact .inl (by omega)
    · obtain ⟨q1,q2⟩:=hx h0
      refine .inr ?_;rw [cat_nat,cot,if_pos (by omega),show ((x:Int)-1).toNat=x-1 by omega,sdC,if_neg h0];omega
  have ma:=may a (fun h0=>by
    obtain ⟨q0,q1,q2,q3⟩:=ba.own h0;rw [bb.ext.cc _ (by omega),bb.ext.ce _ (by omega)];exact ⟨q2,q3⟩)
  have mb:=may b (fun h0=>by
    obtain ⟨q0,q1,q2,q3⟩:=bb.own h0;exact ⟨q2,q3⟩)
  have hperm:=sideOf_perm es d hd;have hlen:(sideOf es d 0).length+(sideOf es d 1).length=es.length:=by rw [← List.length_append];exact hperm.length_eq
  refine ⟨ma,mb,?_⟩;have hfit:∃u,(u=true↔Und (sdC cs2 a).key (sdC cs2 b).key (d:Int))∧fitP d (sdC cs2 a) (sdC cs2 b) u=true:=by
    by_cases hu:Und (sdC cs2 a).key (sdC cs2 b).key (d:Int)
    · refine ⟨true,by simp [hu],?_⟩
      unfold fitP;rw [a2,b2];simp;omega
    · refine ⟨false,by simp [hu],?_⟩
      have:(sdC cs2 a).kind=0∨(sdC cs2 b).kind=0:=by
        apply Classical.byContradiction;intro hq;have ha0:a≠0:=fun e=>hq (.inl (by rw [e];rfl))
        have hb0:b≠0:=fun e=>hq (.inr (by rw [e];rfl))
        obtain ⟨x,hx,hxk⟩:=a3 ha0;obtain ⟨y,hy,hyk⟩:=b3 hb0;refine hu ⟨by omega,by omega,fun j hj=>?_⟩;rw [← hxk j (by omega),← hyk j (by omega)];exact hs x (List.mem_filter.1 hx).1 y (List.mem_filter.1 hy).1 j (by omega)
      unfold fitP;rw [a2,b2];rcases this with e | e <;> simp [e] <;> omega
  obtain ⟨u,hu,hf⟩:=hfit;refine ⟨u,hu,hf,fun K hK=>?_⟩;have tk:=(tk_of (cs:=cs2) (fr:=[]) (fun _ h=>by cases h) (1,inC (inD (sdD cs2 a) (sdD cs2 b)) K ((sdC cs2 a).sz+(sdC cs2 b).sz) d a b)).2;have wf:=bb.wf.inner tk (inn_ok bb.wf hd ma mb hu hf hK) ⟨dig_length _,dig_bytes _,hK.1,none,0,rfl⟩ rfl ma.own mb.own;have hX:∃X,X=inC (inD (sdD cs2 a) (sdD cs2 b)) K ((sdC cs2 a).sz+(sdC cs2 b).sz) d a b:=⟨_,rfl⟩;obtain ⟨X,hX⟩:=hX;rw [← hX];have xk:X.kind=2:=by rw [hX];rfl
  have xd:X.dp=d:=by rw [hX];rfl
  have xl:X.l=a:=by rw [hX];rfl
  have xr:X.r=b:=by rw [hX];rfl
  have xa:X.ab=0:=by rw [hX];rfl
  have wf':Wf (upA (upA (cs2++[(1,X)]) a) b) []:=by rw [hX];exact wf
  have u1:=upA_of (cs2++[(1,X)]) a;have uu:=u1.trans (upA_of (upA (cs2++[(1,X)]) a) b);have e2:=Ext.snoc cs2 (1,X);have ex:Ext cs (upA (upA (cs2++[(1,X)]) a) b):=by
    refine Ext.up (Ext.up ((ba.ext.trans bb.ext).trans e2) a ?_) b ?_
    · by_cases h0:a=0
      · exact .inl h0
      · exact .inr (ba.own h0).1
    · by_cases h0:b=0
      · exact .inl h0
      · have:=(bb.own h0).1
        have:=ba.ext.len;exact .inr (by omega)
  have kp:∀i,0<cc cs2 i→0<cc (upA (upA (cs2++[(1,X)]) a) b) i∧Core (ce cs2 i) (ce (upA (upA (cs2++[(1,X)]) a) b) i):=fun i hi=>by
    obtain ⟨k1,k2⟩:=e2.keep i hi;exact ⟨by rw [uu.cc];exact k1,k2.trans (uu.core i)⟩
  have cn:cc (upA (upA (cs2++[(1,X)]) a) b) cs2.length=1:=by rw [uu.cc,cc_snoc,if_pos rfl]
  have cr:Core X (ce (upA (upA (cs2++[(1,X)]) a) b) cs2.length):=by
    have:=uu.core cs2.length;rwa [ce_snoc,if_pos rfl] at this
  have ab:(ce (upA (upA (cs2++[(1,X)]) a) b) cs2.length).ab=0:=by
    rw [upA_ab _ b _ (by rw [u1.len,List.length_append];left;simp;omega),upA_ab _ a _ (by rw [List.length_append];left;have:=bb.ext.len;simp;omega),ce_snoc,if_pos rfl,xa,if_neg (by have:=bb.ext.len;omega),if_neg (by omega)]
  obtain ⟨TA,hTA,pA⟩:=ba.tree;obtain ⟨TB,hTB,pB⟩:=bb.tree;have sn:sdC (upA (upA (cs2++[(1,X)]) a) b) (cs2.length+1)=ce (upA (upA (cs2++[(1,X)]) a) b) cs2.length:=rfl;refine ⟨ex,wf',⟨.nd d a b TA TB,⟨by omega,?_,?_,?_,?_,?_,?_,?_⟩,?_⟩,fun _=>?_,fun _=>⟨?_,?_,?_,?_⟩,?_,fun i=>?_⟩
  · rw [Nat.add_sub_cancel,cn];omega
  · rw [Nat.add_sub_cancel,cr];exact xk
  · rw [Nat.add_sub_cancel,cr];exact xd
  · rw [Nat.add_sub_cancel,cr];exact xl
  · rw [Nat.add_sub_cancel,cr];exact xr
  · exact (hTA.keep bb.ext.keep).keep kp
  · exact hTB.keep kp
  · exact (pA.append pB).trans hperm
  · rw [sn,cr];exact xd
  · have:=ba.ext.len
    have:=bb.ext.len;omega
  · rw [uu.len];simp
  · rw [Nat.add_sub_cancel,cn]
  · rw [Nat.add_sub_cancel,ab]
  · have n1:=ba.num
    have n2:=bb.num;rw [uu.len,List.length_append,List.length_singleton];have e1:257-(d+1)=256-d:=by omega
    rw [e1] at n1 n2;have e3:es.length * (257-d)=es.length * (256-d)+es.length:=by
      rw [show 257-d=(256-d)+1 by omega,Nat.mul_add,Nat.mul_one]
    rw [e3,← hlen,Nat.add_mul];omega
  · have q1:=ba.eow i
    have q2:=bb.eow i;have q3:=bb.wf.le i;have z:cc cs2 cs2.length=0:=by
      cases e:cc cs2 cs2.length with
      | zero=>rfl
      | succ n=>exact absurd (cc_lt (cs:=cs2) (i:=cs2.length) (by omega)) (by omega)
    have hl:=bb.ext.len;unfold Go.Proofs.YtabiglnmfdpcfaaGreatDoor.own at q1 q2 ⊢;rw [List.count_nil] at q1 q2 q3 ⊢;rw [uu.cc,upA_ab _ b i (by rw [u1.len,List.length_append];left;simp;omega),upA_ab _ a i (by rw [List.length_append];left;simp;omega),cc_snoc,ce_snoc]
    by_cases q:i=cs2.length
    · subst q
      rw [if_pos rfl,if_pos rfl,xa,if_pos rfl];rw [z] at q2;simp only;omega
    · rw [if_neg q,if_neg q,if_neg (show ¬cs2.length+1=i+1 by omega)]
      omega

end Go.Proofs.YtabiglnmfdpcfaaGreatDoor
