/- put.raise, as a contract. -/
import Derived.Test.YtlclabbnpjobgaaGreatDoorAp30
namespace Go.Proofs.YtlclabbnpjobgaaGreatDoor
variable {E:List Ent}
variable {K:Lq}
variable {S S0 fr pend:List Nat}
variable {cs cs0 cs1:Lz}
variable {g gs room:Nat}
variable {mk:Bool}
variable {v:Value}
variable {w w0:World}
set_option maxHeartbeats 4000000
set_option maxRecDepth 20000
open Go.RowKit
section
variable {w w1 w2:World} {S:List Nat} {g gs room:Nat} {cs:Lz} {fr:List Nat}
theorem Hs.rebase (h:Hs w S w g gs room cs fr) (hb:Kb w w1):Hs w1 S w1 g gs room cs fr:=by
 obtain ⟨⟨vp,vf,s,m,n⟩,W⟩:=h;refine ⟨⟨vp,vf,s.grow hb,Mod.refl _ _,fun k hk=>?_⟩,W⟩;rcases n k hk with q | q
 ·exact .inl q
 ·have:=s.lts k hk;omega
theorem Hs.back (hb:Kb w w1) (h:Hs w1 S w2 g gs room cs fr):Hs w S w2 g gs room cs fr:=by
 obtain ⟨⟨vp,vf,s,m,n⟩,W⟩:=h;refine ⟨⟨vp,vf,s,(Mod.of_below hb S).trans' m,fun k hk=>?_⟩,W⟩;rcases n k hk with q | q
 ·exact .inl q
 ·exact .inr (Nat.le_trans hb.size q)
end
def RaPost (w:World) (S:List Nat) (g gs room:Nat) (cs0 cs1:Lz) (fr:List Nat) (E:List Ent) (K bs:Lq) (ss:List Nat) (e:Ending) (w':World):Prop:=
 ∃(top:Nat) (v':Value) (cs2:Lz) (fr2:List Nat),e=.returned (.int .i64 (top:Int))∧CeOk (lfC (lfD K (vaD bs)) K v' bs)∧Rz K ss (tkC cs1 fr (1,lfC (lfD K (vaD bs)) K v' bs)) fr.dropLast (tkH cs1 fr) cs2 fr2 top∧RzI cs0 E K bs ss 0 cs2 top∧Hs w S w' g gs room cs2 fr2
theorem Zuu (h:Hs w S w g gs room cs1 fr) (hS:∀k∈S,k<w.heap.size) (W0:Wf cs0 []) {E:List Ent} {K bs:Lq} {ss:List Nat} (hK:Key K) (b:BesOk cs0 E K ss) (hm:HmOk cs0 ss cs1) (hroom:noc cs0+258≤room) (a:Option Addr) (n c:Nat) (hn:n=ss.length) (hI:Kq S w (fun w'=>Ints9 w' a ss)) (hL:Kq S w Laid) (v:Value) (hR:Kq S w (fun w'=>Reads w' v bs)) (hl:bs.length≤1024):
  Kc 77 #[.pointer (some ⟨g,0,none⟩),.agg (B K),v,.slice a n c] w (RaPost w S g gs room cs0 cs1 fr E K bs ss):=by
 have h256:n≤256:=by rw [hn];exact b.len
 have HPS:Hid ((Tryz.prog.info? 48).map (·.size)=some (B K).size):=by show _=_;rw [Zn,hK.1];exact Zi
 have HPL:=Za (Zjf K hK.1);have hbs:Bytes bs:=by obtain ⟨_,_,_,_,_,hb,_⟩:=hR.now;exact hb
 have hfu: ¬Full room cs1 fr:=h.free (by rw [hm.noc];omega);have HLF:Hid (∀w1,Kb w w1→Kc 129 #[.pointer (some ⟨g,0,none⟩),.agg (B K),v] w1 fun e w'=>∃v',e=.returned (.tuple #[.int .i64 (tkH cs1 fr:Int),.int .i64 0])∧CeOk (lfC (lfD K (vaD bs)) K v' bs)∧Hs w1 S w' g gs room (tkC cs1 fr (1,lfC (lfD K (vaD bs)) K v' bs)) fr.dropLast):=fun w1 hb=>Yet (h.rebase hb) K v bs ((hR.grow hb).now) hK ((hL.grow hb).now) hl hfu
 have HI0:Hid (∀v',CeOk (lfC (lfD K (vaD bs)) K v' bs)→RzI cs0 E K bs ss n (tkC cs1 fr (1,lfC (lfD K (vaD bs)) K v' bs)) (tkH cs1 fr)):=fun v' ok=>by
  rw [hn];exact Zoy W0 b hm h.frok v' hbs hl ok
 have HTK:Hid (ss.take n=ss):=List.take_of_length_le (by omega);have HRD:Hid (∀w1,Kb w w1→∀wr (m:Nat) cs fr' (top:Nat),m<n→Hs w1 S wr g gs room cs fr'→RzI cs0 E K bs ss (m+1) cs top→∃(lb s:Nat),a=some ⟨lb,0,none⟩∧wr.cell? ⟨lb,m,none⟩=some (.int .i64 (s:Int))∧(ss.take (m+1)=ss.take m++[s])∧(∀z,Kc 130 #[.agg (B K),.int .i64 (m:Int),.int .i64 (top:Int),.int .i64 (s:Int)] z fun e z'=>e=.returned (.tuple #[.int .i64 (tl K m top s:Int),.int .i64 (tr K m top s:Int)])∧Kb z z')∧
   ∀z,Kb wr z→Kc 131 #[.pointer (some ⟨g,0,none⟩),.int .i64 (m:Int),.int .i64 (tl K m top s:Int),.int .i64 (tr K m top s:Int)] z fun e z'=>∃cs',e=.returned (.tuple #[.int .i64 (tkH cs fr':Int),.int .i64 0])∧InnR cs fr' m (tl K m top s) (tr K m top s) cs'∧RzI cs0 E K bs ss m cs' (tkH cs fr')∧Hs w1 S z' g gs room cs' fr'.dropLast):=fun w1 hb wr m cs fr' top hmn hh hi=>by
  obtain ⟨lb,e1,e2⟩:=hh.kq (hI.grow hb) m (by omega);have hml:m<ss.length:=by omega
  have hm256:m<256:=by omega
  refine ⟨lb,ss.getD m 0,e1,e2,?_,fun z=>?_,fun z hz=>?_⟩
  ·rw [List.take_add_one,List.getElem?_eq_getElem hml,List.getD_eq_getElem?_getD,List.getElem?_eq_getElem hml];rfl
  ·have:=Zhm z K hK m hm256 (top:Int) (ss.getD m 0:Int);unfold tl tr
   by_cases q:kb K m=1
   ·simp only [q,if_true] at this ⊢;exact this
   ·simp only [q,if_false] at this ⊢;exact this
  ·obtain ⟨ml,mr,u,hu,hf,hst⟩:=Zua b hml hi;have hz2:=hh.grow hz;refine (Yan hz2 m _ _ hm256 ml mr u hu hf (hz2.kq (hL.grow hb)) (hz2.free (by have:=hi.noc;omega))).mono ?_;rintro e z' ⟨cs',hin,rfl,hs'⟩;exact ⟨cs',rfl,hin,hst fr' cs' hz2.frok hin hs'.2,hs'⟩
 have HPost:Hid (∀w1,Kb w w1→∀(v':Value) wr (top:Nat) cs2 fr2,CeOk (lfC (lfD K (vaD bs)) K v' bs)→Rz K ss (tkC cs1 fr (1,lfC (lfD K (vaD bs)) K v' bs)) fr.dropLast (tkH cs1 fr) cs2 fr2 top→RzI cs0 E K bs ss 0 cs2 top→Hs w1 S wr g gs room cs2 fr2→RaPost w S g gs room cs0 cs1 fr E K bs ss (.returned (.int .i64 (top:Int))) wr):=fun w1 hb v' wr top cs2 fr2 h1 h2 h3 h4=>⟨top,v',cs2,fr2,rfl,h1,h2,h3,Hs.back hb h4⟩
 generalize RaPost w S g gs room cs0 cs1 fr E K bs ss=P at HPost ⊢;have HS:=Za hS;have HKE:Hid (Key K):=hK;have HM:=Za h256;have hwn:wrap64 ((n:Int)-1)=(n:Int)-1:=Go.IntWalk.wrap64_in _ (by omega);have HNS:=Za hn;have HV:Hid (∃va vn vc,v=.slice va vn vc):=by obtain ⟨va,vc,e,_⟩:=hR.now;exact ⟨va,_,vc,e⟩
 obtain ⟨va,vn,vc,hve⟩:=HV.out;subst hve;clear h hS W0 b hm hroom hn hI hL hR hl h256 hbs hfu hK HV;go_enter Tryz.func77,Tryz.ntmps77
 go_wp2_with (first
  |((with_reducible refine Zo 5 ?_);refine Zd _ rfl _ _ rfl _ rfl ?_;intro w1 b5 hg5 hl5 B5 q5;have HB5:=Za B5;have HQ5:=Za q5;have HG5:=Za hg5;clear hg5 hl5 B5 q5)
  |((with_reducible refine Zk 16 5 ?_);refine Zg _ rfl _ _ rfl b5 _ rfl HB5.out _ _ Tryz.underlying48 HPS.out ?_)
  |(go_at_call 129;refine (HLF.out _ HQ5.out).mono ?_;rintro e w2 ⟨v',rfl,ok,hs2⟩;have HOK:=Za ok;have HH2:=Za hs2;clear ok hs2))
 have HBQ:Hid (Kq S w1 (fun w'=>Blk w' b5 48 (B K))):=Kq.blk HB5.out (fun e=>by have:=HS.out _ e;have:=HG5.out;omega);have HI1:=Za (HI0.out v' HOK.out);obtain ⟨csL,hcsL⟩:∃x,x=tkC cs1 fr (1,lfC (lfD K (vaD bs)) K v' bs):=⟨_,rfl⟩;rw [← hcsL] at HH2 HI1;have HPo:Hid (∀wr (top:Nat) cs2 fr2,Rz K ss csL fr.dropLast (tkH cs1 fr) cs2 fr2 top→RzI cs0 E K bs ss 0 cs2 top→Hs w1 S wr g gs room cs2 fr2→P (.returned (.int .i64 (top:Int))) wr):=fun wr top cs2 fr2 a1 a2 a3=>HPost.out w1 HQ5.out v' wr top cs2 fr2 HOK.out (by rw [← hcsL];exact a1) a2 a3
 have HRw:=Za (HRD.out w1 HQ5.out);generalize tkH cs1 fr=t0 at HH2 HI1 HPo ⊢;generalize fr.dropLast=frL at HH2 HPo;clear HPost HRD HI0 HLF HB5 HQ5 HG5 HS HOK hcsL
 go_loopw [9,11] (fun tv dv wr=>∃(m:Nat) (top:Nat) (cs:Lz) (fr':List Nat),m≤n∧tv=.int .i64 (top:Int)∧dv=.int .i64 ((m:Int)-1)∧Hid (Hs w1 S wr g gs room cs fr')∧Hid (RzI cs0 E K bs ss m cs top)∧Hid (∀cs2 fr2 t2,Rz K (ss.take m) cs fr' top cs2 fr2 t2→Rz K ss csL frL t0 cs2 fr2 t2)) (fun _ dv _=>(intOf dv+1).toNat)
 case atStart=>exact ⟨n,t0,csL,frL,Nat.le_refl _,rfl,by first | rfl | (rw [hwn]) | go_num,HH2.out,HI1.out,fun _ _ _ q=>by rw [HTK.out] at q;exact q⟩
 case round=>
  clear HH2 HI1 hwn;obtain ⟨m,top,cs,fr',hmn,rfl,rfl,HH,HI,HZ⟩:=hrel;cases m with
  | zero=>
   have e0:((0:Nat):Int)-1= -1:=rfl;rw [e0];have HF:Hid (P (.returned (.int .i64 (top:Int))) wr):=HPo.out wr top cs fr' (HZ.out _ _ _ (by rw [List.take_zero];exact Rz.done _ _ _)) HI.out HH.out
   go_wp2_with fail
   exact HF.out
  | succ m=>
   have e0:((m+1:Nat):Int)-1=(m:Int):=by omega
   rw [e0];obtain ⟨lb,s,rfl,hcl,hts,htn,hin⟩:=HRw.out wr m cs fr' top (by omega) HH.out HI.out;have HCL:=Za hcl;have HIN:=Za hin;have HBK:=Za (HH.out.kq HBQ.out);have HZ2:Hid (∀cs1 cs2 fr2 t2,InnR cs fr' m (tl K m top s) (tr K m top s) cs1→Rz K (ss.take m) cs1 fr'.dropLast (tkH cs fr') cs2 fr2 t2→Rz K ss csL frL t0 cs2 fr2 t2):=fun cs1 cs2 fr2 t2 a1 a2=>by
    have hlm:(ss.take m).length=m:=by rw [List.length_take];have:=HNS.out;omega
    refine HZ.out cs2 fr2 t2 ?_;rw [hts];refine Rz.step (cs1:=cs1) ?_ a2;rw [hlm];exact a1
   have HTN:=Za htn;generalize (tl K m top s:Int)=lz at HTN HIN;generalize (tr K m top s:Int)=rz at HTN HIN;obtain ⟨th,hth⟩:∃th:Int,th=(tkH cs fr':Int):=⟨_,rfl⟩;rw [← hth] at HIN;have HTH:=Za hth;generalize (s:Int)=sy at HCL HTN;generalize (top:Int)=ty at HTN ⊢;have k0:(0:Int)≤(m:Int):=by omega
   have k1:(m:Int)<(n:Int):=by omega
   have hm256:m<256:=by have:=HM.out;omega
   have hwm:wrap64 ((m:Int)-1)=(m:Int)-1:=Go.IntWalk.wrap64_in _ (by omega);have hcl:=HCL.out;clear hin htn hth HZ HH HI HPo HRw hts hmn e0
   go_wp2_with fail
   refine wp_region_held_drew (S:=fun w'=>Kb wr w') (by kernel_rfl) ((below_drewN (Below.refl _ _) 1)) (fun hHeld=>?_);refine tkg 0 (.agg (B K)) rfl (yieldsIf_load_mid rfl 48 (.tmp 5) rfl b5 0 rfl (B K).toList _ (fun w hS=>(HBK.out.grow hS).range) Tryz.underlying48 rfl HPL.out) hHeld ?_;simp only [zq];refine tkp 1 (.int .i64 (m:Int)) hHeld ?_;simp only [zq];refine tkp 2 (.int .i64 ty) hHeld ?_;simp only [zq];refine tkp 3 (.slice (some ⟨lb,0,none⟩) n c) hHeld ?_;simp only [zq];refine tkp 4 (.int .i64 (m:Int)) hHeld ?_;simp only [zq];refine tkp 5 (.pointer (some ⟨lb,m,none⟩)) hHeld ?_;simp only [zq];refine tkg 6 (.int .i64 sy) rfl (Or.inl ⟨by rfl,fun w hS=>by (have q1:=Zx hS HCL.out;go_simp)⟩) hHeld ?_;simp only [zq];refine wpAnyH_ready (rs:=[7]) (by kernel_rfl) (by simp) ?_;refine AllReadyH.cons rfl (fun KQ hK=>?_) AllReadyH.nil;go_simp;refine (HTN.out _).mono ?_;rintro e z1 ⟨rfl,a1⟩;refine hK.out _ _ (Zb hHeld a1) (fun hHeld=>?_);clear hK KQ;refine tkp 8 (.tuple #[.int .i64 lz,.int .i64 rz]) hHeld ?_;simp only [zq];refine tkp 9 (.int .i64 lz) hHeld ?_;simp only [zq];refine tkp 10 (.int .i64 rz) hHeld ?_;simp only [zq];refine tkp 11 (.int .i64 lz) hHeld ?_;simp only [zq];refine tkp 12 (.int .i64 rz) hHeld ?_;simp only [zq];refine wpAnyH_done (by kernel_rfl) ?_ _;have HHd:=Za hHeld;clear hHeld hcl
   go_wp2_with (first
    |(go_at_call 131;refine (HIN.out _ HHd.out).mono ?_;rintro e z2 ⟨cs',rfl,hin2,hi2,hs2⟩;have HIN2:=Za hin2;have HI2:=Za hi2;have HS2:=Za hs2;clear hin2 hi2 hs2))
   exact ⟨⟨m,tkH cs fr',cs',fr'.dropLast,by omega,by rw [HTH.out],rfl,HS2.out,HI2.out,fun cs2 fr2 t2 q=>HZ2.out cs' cs2 fr2 t2 HIN2.out q⟩,by simp only [intOf];omega⟩
end Go.Proofs.YtlclabbnpjobgaaGreatDoor
namespace Go.Proofs.YtlclabbnpjobgaaGreatDoor
variable {E:List Ent}
variable {K:Lq}
variable {S S0 fr pend:List Nat}
variable {cs cs0 cs1:Lz}
variable {g gs room:Nat}
variable {mk:Bool}
variable {v:Value}
variable {w w0:World}
set_option maxHeartbeats 4000000
set_option maxRecDepth 20000
open Go.RowKit
theorem Zmh (x y:Value) (xs ys:Lq) (w:World) (hx:Reads w x xs) (hy:Reads w y ys):
  Kc 125 #[x,y] w fun e w'=>e=.returned (.bool (decide (xs=ys)))∧w'=w:=by
 have c1:=Zcf hx;have c2:=Zcf hy;have HB:Hid (((strOfNums xs).toList == (strOfNums ys).toList)=decide (xs=ys)):=by
  obtain ⟨_,_,_,_,_,h1,_⟩:=hx;obtain ⟨_,_,_,_,_,h2,_⟩:=hy;exact Ztd xs ys h1 h2
 clear hx hy;go_enter Tryz.func125,Tryz.ntmps125
 go_wp2
 go_ret;exact ⟨by rw [← HB.out];rfl,rfl⟩
end Go.Proofs.YtlclabbnpjobgaaGreatDoor
namespace Go.Proofs.YtlclabbnpjobgaaGreatDoor
variable {E:List Ent}
variable {K:Lq}
variable {S S0 fr pend:List Nat}
variable {cs cs0 cs1:Lz}
variable {g gs room:Nat}
variable {mk:Bool}
variable {v:Value}
variable {w w0:World}
set_option maxHeartbeats 4000000
set_option maxRecDepth 20000
open Go.RowKit
def BesIs (K:Lq) (T:Tre) (h:Nat) (ss:List Nat):Prop:=
 (T.efin K=[]∧ss=T.oth K)∨(∃b,T.efin K=[(K,b)]∧ss=T.oth K)∨(∃k b c,T.efin K=[(k,b)]∧k≠K∧IsCommon K k c∧(T.oth K).length≤c∧c<256∧ss=besX (T.oth K) c (T.fin K h))
theorem Zqg (W:Wf cs pend) (K:Lq) (hK:Key K) {T:Tre} {h:Nat} (hT:IsT cs h T) (hd:(sdC cs h).kind=2→(sdC cs h).dp=0):∃ss,BesIs K T h ss∧BesOk cs T.ents K ss:=by
 rcases Zej K T h hT with ⟨f1,f2⟩ | ⟨k,b,f1,f2,f3,f4,f5,f6⟩
 ·exact ⟨_,.inl ⟨f2,rfl⟩,Zxo W K hT hd (fun e he=>by rw [f2] at he;cases he)⟩
 ·by_cases q:k=K
  ·subst q;exact ⟨_,.inr (.inl ⟨b,f1,rfl⟩),Zxo W k hT hd (fun e he=>by rw [f1] at he;rw [List.mem_singleton.1 he])⟩
  ·obtain ⟨c,hc⟩:=Zmk K k;have hk:Key k:=((Zbb W T h hT).ent (k,b) (Zds K T (k,b) (by rw [f1];simp))).1;have hc2:c<256:=by
    apply Nat.lt_of_not_le;intro h256;have:c=256:=by have:=hc.1;omega
    subst this;exact q (hc.whole hK hk).symm
   obtain ⟨b1,b2⟩:=Zxp W K hT hd f1 c hc hc2;exact ⟨_,.inr (.inr ⟨k,b,c,f1,q,hc,b1,hc2,rfl⟩),b2⟩
theorem Zsc (V:Vw w v true (cot cs) (cat cs)) (W:Wf cs pend) (h:Nat) (T:Tre) (hT:IsT cs h T) (K:Lq) (hK:Key K) (hrd:(sdC cs h).kind=2→(sdC cs h).dp=0) (a:Option Addr) (n c:Nat) (hI:Ints9 w a (T.hs K h)) (hn:n=(T.hs K h).length) (ss:List Nat) (hss:BesIs K T h ss):
  Kc 127 #[v,.agg (B K),.slice a n c,.int .i64 (T.fin K h:Int)] w (BesPost ss w):=by
 have hlen:(T.oth K).length=n:=by rw [hn,Tre.hs_oth]
 have h256:n≤256:=by
  have:=(Zcr W K T h 0 hT hrd (by omega)).2.2;omega
 have hat:∀k,k<n→∃(x o:Nat) (l r q:Int),(∃lb,a=some ⟨lb,0,none⟩∧w.cell? ⟨lb,k,none⟩=some (.int .i64 (x:Int)))∧(T.oth K)[k]?=some o∧(Kr w 43 #[v,.int .i64 (x:Int)] (.tuple #[.int .i64 l,.int .i64 r]))∧∀w',Kc 130 #[.agg (B K),.int .i64 (k:Int),.int .i64 l,.int .i64 r] w' fun e w''=>e=.returned (.tuple #[.int .i64 q,.int .i64 (o:Int)])∧Below w'.heap.size w' w'':=fun k hk=>by
  obtain ⟨x,a1,a2,a3,a4,a5,a6,a7,a8⟩:=Yao W K T h 0 hT hrd k (by omega);rw [Nat.zero_add] at a5 a6 a7;obtain ⟨lb,e1,e2⟩:=hI k (by omega);have hx:(T.hs K h).getD k 0=x:=by rw [List.getD_eq_getElem?_getD,a1];rfl
  rw [hx] at e2;have hca:=Zen (cs:=cs) a2;refine ⟨x,_,((ce cs (x-1)).l:Int),((ce cs (x-1)).r:Int),(if kb K k=1 then ((ce cs (x-1)).r:Int) else ((ce cs (x-1)).l:Int)),⟨lb,e1,e2⟩,a7,fun w' hb=>?_,fun w'=>?_⟩
  ·have:=Zhr (V.grow hb) (x:Int);rwa [hca] at this
  ·have:=Zhm w' K hK k a6 ((ce cs (x-1)).l:Int) ((ce cs (x-1)).r:Int);have e:((if kb K k=1 then (ce cs (x-1)).l else (ce cs (x-1)).r:Nat):Int)=if kb K k=1 then ((ce cs (x-1)).l:Int) else ((ce cs (x-1)).r:Int):=by split <;> rfl
   rw [e];exact this
 rcases Zej K T h hT with ⟨f1,f2⟩ | ⟨k,b,f1,f2,f3,f4,f5,f6⟩
 ·rw [f1];rcases hss with ⟨_,rfl⟩ | ⟨b,e,_⟩ | ⟨k,b,c',e,_⟩
  ·exact Zog K hK a n c _ hlen h256 hat
  ·rw [f2] at e;cases e
  ·rw [f2] at e;cases e
 ·have hca:=Zen (cs:=cs) f2;have hky:Kr w 47 #[v,.int .i64 (T.fin K h:Int)] (.agg (B k)):=fun w' hb=>by
   have:=Zvq (V.grow hb) (T.fin K h:Int);rwa [hca,f5] at this
  rcases hss with ⟨e,_⟩ | ⟨b',e,rfl⟩ | ⟨k',b',c',e,e2,e3,e4,e5,rfl⟩
  ·rw [f1] at e;cases e
  ·rw [f1] at e;injection e with e _;injection e with e _;subst e;exact Zsb k hK a n c _ hlen h256 hat _ (by omega) hky
  ·rw [f1] at e;injection e with e _;injection e with e _;subst e;have hk:Key k:=((Zbb W T h hT).ent (k,b) (Zds K T (k,b) (by rw [f1];simp))).1;exact Zmp K hK a n c _ hlen h256 hat _ (by omega) k hk e2 hky c' e3 (by rw [← hlen];exact e4) e5
def PlPost (ss:List Nat) (w:World) (e:Ending) (w':World):Prop:=
 ∃a c,e=.returned (.tuple #[.slice a ss.length c,.bool false,.int .i64 0])∧w'.ownsRow w.heap.size 3 1 (.slice a ss.length c) ss.length (nats ss)∧Kb w w'
theorem Zll (V:Vw w v true (cot cs) (cat cs)) (W:Wf cs pend) (h:Nat) (T:Tre) (hT:IsT cs h T) (K:Lq) (hK:Key K) (he:vRt true (cot cs h) (cat cs h) h=0) (u:Value) (bs:Lq) (hu:Reads w u bs) (hsm:T.efin K=[(K,bs)]):
  Kc 75 #[v,.int .i64 (h:Int),.agg (B K),u] w fun e w'=>e=.returned (.tuple #[.slice none 0 0,.bool true,.int .i64 0])∧Kb w w':=by
 have HFD:Hid (∀w',Kb w w'→Kc 124 #[v,.int .i64 (h:Int),.agg (B K)] w' fun e w''=>∃a n c,e=.returned (.tuple #[.slice a n c,.bool true,.int .i64 0])∧Reads w'' (.slice a n c) bs∧Below w'.heap.size w' w''):=fun w' hb=>by
  have:=Zkt (V.grow hb) W h T hT K hK he;rw [hsm] at this;simp only [fnd,if_true] at this;refine this.mono ?_;rintro e w'' ⟨v',sp,rfl,o,b⟩;obtain ⟨a,c,e1,_⟩:=o.reads;subst e1;exact ⟨a,_,c,rfl,o.reads,b⟩
 have HPS:Hid ((Tryz.prog.info? 48).map (·.size)=some (B K).size):=by show _=_;rw [Zn,hK.1];exact Zi
 have HU:=Za hu;obtain ⟨ua,uc,hue,_⟩:=hu;subst hue;generalize bs.length=un at HU ⊢;have HEQ:Hid (∀w' a n c,Reads w' (.slice a n c) bs→Reads w' (.slice ua un uc) bs→Kc 125 #[.slice a n c,.slice ua un uc] w' fun e w''=>e=.returned (.bool true)∧w''=w'):=fun w' a n c r1 r2=>by
  have:=Zmh _ _ bs bs w' r1 r2;simpa using this
 generalize (h:Int)=hh at HFD ⊢;clear V W hT hK he hsm;go_enter Tryz.func75,Tryz.ntmps75
 go_wp2_with (first
  |((with_reducible refine Zo 6 ?_);refine Zd _ rfl _ _ rfl _ rfl ?_;intro w1 b5 hg5 hl5 B5 q5;have HB5:=Za B5;have HQ5:=Za q5;clear hg5 hl5 B5 q5)
  |((with_reducible refine Zk 19 6 ?_);refine Zg _ rfl _ _ rfl b5 _ rfl HB5.out _ _ Tryz.underlying48 HPS.out ?_)
  |(go_at_call 124;refine (HFD.out _ HQ5.out).mono ?_;rintro e w2 ⟨fa,fn,fc,rfl,r2,b2⟩;have HR2:=Za r2;have HQ2:=Za (Zb HQ5.out b2);clear r2 b2)
  |(go_at_call 125;refine (HEQ.out _ _ _ _ HR2.out (HU.out.grow HQ2.out)).mono ?_;rintro e w' ⟨rfl,hx⟩;rw [hx];clear hx w'))
 go_ret3;exact ⟨rfl,HQ2.out⟩
theorem Zpg (V:Vw w v true (cot cs) (cat cs)) (W:Wf cs pend) (h:Nat) (T:Tre) (hT:IsT cs h T) (K:Lq) (hK:Key K) (he:vRt true (cot cs h) (cat cs h) h=0) (u:Value) (bs:Lq) (hu:Reads w u bs) (hne:T.efin K≠[(K,bs)]) (ss:List Nat) (hss:BesIs K T h ss) (h257:ss.length≤256) (hct:∀i,cc cs i<1073741824):
  Kc 75 #[v,.int .i64 (h:Int),.agg (B K),u] w (PlPost ss w):=by
 have hrd:=Zuh hT he;have HPS:Hid ((Tryz.prog.info? 48).map (·.size)=some (B K).size):=by show _=_;rw [Zn,hK.1];exact Zi
 have HHD:Hid (∀w',Kb w w'→Kc 126 #[v,.int .i64 (h:Int),.agg (B K)] w' (HdPost (T.hs K h) (T.fin K h) w')):=fun w' hb=>Zij (V.grow hb) W h T hT K hK he
 have HBS:Hid (∀w' a c,Kb w w'→Ints9 w' a (T.hs K h)→Kc 127 #[v,.agg (B K),.slice a (T.hs K h).length c,.int .i64 (T.fin K h:Int)] w' (BesPost ss w')):=fun w' a c hb hi=>Zsc (V.grow hb) W h T hT K hK hrd a _ c hi rfl ss hss
 have hct2:∀q,cot cs q<1073741824:=fun q=>by
  unfold cot;split
  ·exact hct _
  ·omega
 have h256:(T.hs K h).length≤256:=by
  have:=(Zcr W K T h 0 hT hrd (by omega)).2.2;rw [Tre.hs_oth];omega
 have HCN:Hid (∀w' a1 a2 c1 c2,Kb w w'→Ints9 w' a1 (T.hs K h)→Ints9 w' a2 ss→Kc 128 #[v,.slice a1 (T.hs K h).length c1,.slice a2 ss.length c2] w' fun e w''=>e=.returned (.bool true)∧Below w'.heap.size w' w''):=fun w' a1 a2 c1 c2 hb i1 i2=>Zku (V.grow hb) hct2 a1 a2 _ _ c1 c2 _ _ i1 i2 rfl rfl h256 (by omega)
 have HPost:Hid (∀a c w',w'.ownsRow w.heap.size 3 1 (.slice a ss.length c) ss.length (nats ss)→Kb w w'→PlPost ss w (.returned (.tuple #[.slice a ss.length c,.bool false,.int .i64 0])) w'):=fun a c w' h1 h2=>⟨a,c,rfl,h1,h2⟩
 have hfin:=Zkt V W h T hT K hK he;have HFD:Hid (∀w',Kb w w'→Kc 124 #[v,.int .i64 (h:Int),.agg (B K)] w' fun e w''=>∃a n c,e=.returned (.tuple #[.slice a n c,.bool (fnd (T.efin K) K).2,.int .i64 0])∧Reads w'' (.slice a n c) (fnd (T.efin K) K).1∧Below w'.heap.size w' w''):=fun w' hb=>by
  refine (Zkt (V.grow hb) W h T hT K hK he).mono ?_;rintro e w'' ⟨v',sp,rfl,o,b⟩;obtain ⟨a,c,e1,_⟩:=o.reads;subst e1;exact ⟨a,_,c,rfl,o.reads,b⟩
 have hfe:(fnd (T.efin K) K).2=true→(fnd (T.efin K) K).1≠bs:=fun h2 e=>by
  rcases Zej K T h hT with ⟨f1,f2⟩ | ⟨k,b,f1,f2,f3,f4,f5,f6⟩
  ·rw [f2] at h2;cases h2
  ·rw [f1] at h2 e hne
   by_cases q:k=K
   ·simp only [fnd,q,if_true] at e;exact hne (by rw [q,e])
   ·simp [fnd,q] at h2
 have HU:=Za hu;obtain ⟨ua,uc,hue,_⟩:=hu;subst hue;generalize bs.length=un at HU ⊢;have HEQ:Hid ((fnd (T.efin K) K).2=true→∀w' a n c,Reads w' (.slice a n c) (fnd (T.efin K) K).1→Reads w' (.slice ua un uc) bs→Kc 125 #[.slice a n c,.slice ua un uc] w' fun e w''=>e=.returned (.bool false)∧w''=w'):=fun h2 w' a n c r1 r2=>by
  have:=Zmh _ _ _ bs w' r1 r2;simpa [hfe h2] using this
 generalize (fnd (T.efin K) K).1=fb at HFD HEQ;generalize (fnd (T.efin K) K).2=fd at HFD HEQ;generalize (h:Int)=hh at HFD HHD ⊢;generalize (T.fin K h:Int)=fin at HHD HBS;have HHE:Hid (∀w',Kb w w'→Kc 126 #[v,.int .i64 hh,.agg (B K)] w' fun e w''=>∃a c,e=.returned (.tuple #[.slice a (T.hs K h).length c,.int .i64 fin,.int .i64 0])∧Ints9 w'' a (T.hs K h)∧Below w'.heap.size w' w''):=fun w' hb=>(HHD.out w' hb).mono fun e w'' ⟨a,c,e1,o,b⟩=>⟨a,c,e1,Zie (Zu o) rfl,b⟩
 have HBE:Hid (∀w' a c,Kb w w'→Ints9 w' a (T.hs K h)→Kc 127 #[v,.agg (B K),.slice a (T.hs K h).length c,.int .i64 fin] w' fun e w''=>∃a c,e=.returned (.slice a ss.length c)∧w''.ownsRow w'.heap.size 3 1 (.slice a ss.length c) ss.length (nats ss)∧Below w'.heap.size w' w''):=HBS;generalize PlPost ss w=P at HPost ⊢;generalize T.hs K h=hs at HHE HBE HCN;generalize hs.length=hn at HHE HBE HCN;have HIN:Hid (∀w' b a c,w'.ownsRow b 3 1 (.slice a ss.length c) ss.length (nats ss)→Ints9 w' a ss):=fun w' b a c o=>Zie (Zu o) rfl
 generalize ss.length=sn at HBE HCN HPost HIN;clear V W hT hK he hne hss h257 hct hct2 hrd HHD HBS h256 hfe hfin;cases fd with
 | true=>
  have HE:=Za (HEQ.out rfl);clear HEQ;go_enter Tryz.func75,Tryz.ntmps75
  go_wp2_with (first
   |((with_reducible refine Zo 6 ?_);refine Zd _ rfl _ _ rfl _ rfl ?_;intro w1 b5 hg5 hl5 B5 q5;have HB5:=Za B5;have HQ5:=Za q5;clear hg5 hl5 B5 q5)
   |((with_reducible refine Zk 19 6 ?_);refine Zg _ rfl _ _ rfl b5 _ rfl HB5.out _ _ Tryz.underlying48 HPS.out ?_)
   |(go_at_call 124;refine (HFD.out _ HQ5.out).mono ?_;rintro e w2 ⟨fa,fn,fc,rfl,r2,b2⟩;have HR2:=Za r2;have HQ2:=Za (Zb HQ5.out b2);have HB2:=Za (HB5.out.grow b2);clear r2 b2)
   |(go_at_call 125;refine (HE.out _ _ _ _ HR2.out (HU.out.grow HQ2.out)).mono ?_;rintro e w' ⟨rfl,hx⟩;rw [hx];clear hx w')
   |((with_reducible refine Zk 33 6 ?_);refine Zg _ rfl _ _ rfl b5 _ rfl HB2.out _ _ Tryz.underlying48 HPS.out ?_)
   |(go_at_call 126;refine (HHE.out _ HQ2.out).mono ?_;rintro e w3 ⟨ha,hc,rfl,i3,b3⟩;have HI3:=Za i3;have HQ3:=Za (Zb HQ2.out b3);have HB3:=Za (HB2.out.grow b3);clear i3 b3)
   |((with_reducible refine Zk 39 6 ?_);refine Zg _ rfl _ _ rfl b5 _ rfl HB3.out _ _ Tryz.underlying48 HPS.out ?_)
   |(go_at_call 127;refine (HBE.out _ _ _ HQ3.out HI3.out).mono ?_;rintro e w4 ⟨sa,sc,rfl,o4,b4⟩;have HO4:=Za (Zaj o4 HQ3.out.size);have HI4:=Za (HI3.out.grow b4);have HQ4:=Za (Zb HQ3.out b4);clear o4 b4)
   |(go_at_call 128;refine (HCN.out _ _ _ _ _ HQ4.out HI4.out (HIN.out _ _ _ _ HO4.out)).mono ?_;rintro e w5 ⟨rfl,b5⟩;have HO5:=Za (Zl HO4.out b5);have HQ5':=Za (Zb HQ4.out b5);clear b5))
  go_ret3;exact HPost.out _ _ _ HO5.out HQ5'.out
 | false=>
  clear HEQ;go_enter Tryz.func75,Tryz.ntmps75
  go_wp2_with (first
   |((with_reducible refine Zo 6 ?_);refine Zd _ rfl _ _ rfl _ rfl ?_;intro w1 b5 hg5 hl5 B5 q5;have HB5:=Za B5;have HQ5:=Za q5;clear hg5 hl5 B5 q5)
   |((with_reducible refine Zk 19 6 ?_);refine Zg _ rfl _ _ rfl b5 _ rfl HB5.out _ _ Tryz.underlying48 HPS.out ?_)
   |(go_at_call 124;refine (HFD.out _ HQ5.out).mono ?_;rintro e w2 ⟨fa,fn,fc,rfl,r2,b2⟩;have HQ2:=Za (Zb HQ5.out b2);have HB2:=Za (HB5.out.grow b2);clear r2 b2)
   |((with_reducible refine Zk 33 6 ?_);refine Zg _ rfl _ _ rfl b5 _ rfl HB2.out _ _ Tryz.underlying48 HPS.out ?_)
   |(go_at_call 126;refine (HHE.out _ HQ2.out).mono ?_;rintro e w3 ⟨ha,hc,rfl,i3,b3⟩;have HI3:=Za i3;have HQ3:=Za (Zb HQ2.out b3);have HB3:=Za (HB2.out.grow b3);clear i3 b3)
   |((with_reducible refine Zk 39 6 ?_);refine Zg _ rfl _ _ rfl b5 _ rfl HB3.out _ _ Tryz.underlying48 HPS.out ?_)
   |(go_at_call 127;refine (HBE.out _ _ _ HQ3.out HI3.out).mono ?_;rintro e w4 ⟨sa,sc,rfl,o4,b4⟩;have HO4:=Za (Zaj o4 HQ3.out.size);have HI4:=Za (HI3.out.grow b4);have HQ4:=Za (Zb HQ3.out b4);clear o4 b4)
   |(go_at_call 128;refine (HCN.out _ _ _ _ _ HQ4.out HI4.out (HIN.out _ _ _ _ HO4.out)).mono ?_;rintro e w5 ⟨rfl,b5⟩;have HO5:=Za (Zl HO4.out b5);have HQ5':=Za (Zb HQ4.out b5);clear b5))
  go_ret3;exact HPost.out _ _ _ HO5.out HQ5'.out
end Go.Proofs.YtlclabbnpjobgaaGreatDoor
namespace Go.Proofs.YtlclabbnpjobgaaGreatDoor
variable {E:List Ent}
variable {K:Lq}
variable {S S0 fr pend:List Nat}
variable {cs cs0 cs1:Lz}
variable {g gs room:Nat}
variable {mk:Bool}
variable {v:Value}
variable {w w0:World}
set_option maxHeartbeats 4000000
set_option maxRecDepth 20000
open Go.RowKit
theorem Ydz {ct:Int→Nat} {ca:Int→Ce} (V:Vw w v mk ct ca) (h:Int) (K:Lq) (a:Option Addr) (n c:Nat) (e0:Int) (he:vRf mk (ct h) (ca h) h n=e0) (h0:e0≠0):Kc 38 #[v,.int .i64 h,.agg (B K),.slice a n c] w fun e w'=>e=.returned (.tuple #[.int .i64 0,.int .i64 e0])∧Kb w w':=by
 have HRF:Hid (Kr w 74 #[v,.int .i64 h,.slice a n c] (.int .i64 e0)):=fun w' hb=>by
  have:=Zbm (V.grow hb) h a n c;rwa [he] at this
 clear V he;go_enter Tryz.func38,Tryz.ntmps38
 go_wp2_with (first
  |((with_reducible refine Zo 6 ?_);refine Zd _ rfl _ _ rfl _ rfl ?_;intro w1 b5 hg5 hl5 B5 q5;have HQ5:=Za q5;clear hg5 hl5 B5 q5)
  |(go_at_call 74;refine (HRF.out _ HQ5.out).mono ?_;rintro e w2 ⟨rfl,b2⟩;have HQ2:=Za (Zb HQ5.out b2);clear b2))
 go_ret2;exact ⟨rfl,HQ2.out⟩
theorem Ybl {ct:Int→Nat} {ca:Int→Ce} (V:Vw w v mk ct ca) (h:Int) (K:Lq) (a:Option Addr) (n c:Nat) (e0:Int) (he:vRf mk (ct h) (ca h) h n=e0) (h0:e0≠0):Kc 96 #[v,.int .i64 h,.agg (B K),.slice a n c] w fun e w'=>e=.returned (.tuple #[.int .i64 0,.int .i64 e0])∧Kb w w':=by
 have HRF:Hid (Kr w 74 #[v,.int .i64 h,.slice a n c] (.int .i64 e0)):=fun w' hb=>by
  have:=Zbm (V.grow hb) h a n c;rwa [he] at this
 clear V he;go_enter Tryz.func96,Tryz.ntmps96
 go_wp2_with (first
  |((with_reducible refine Zo 6 ?_);refine Zd _ rfl _ _ rfl _ rfl ?_;intro w1 b5 hg5 hl5 B5 q5;have HQ5:=Za q5;clear hg5 hl5 B5 q5)
  |(go_at_call 74;refine (HRF.out _ HQ5.out).mono ?_;rintro e w2 ⟨rfl,b2⟩;have HQ2:=Za (Zb HQ5.out b2);clear b2))
 go_ret2;exact ⟨rfl,HQ2.out⟩
theorem Zzo (H:Hs w0 S w g gs room cs fr) (h:Int) (K:Lq) (a:Option Addr) (n c:Nat) (he:vRf true (cot cs h) (cat cs h) h n=0) (hf:room<noc cs+258):Kc 38 #[.pointer (some ⟨g,0,none⟩),.int .i64 h,.agg (B K),.slice a n c] w fun e w'=>e=.returned (.tuple #[.int .i64 0,.int .i64 9])∧Kb w w':=by
 have HRF:Hid (Kr w 74 #[.pointer (some ⟨g,0,none⟩),.int .i64 h,.slice a n c] (.int .i64 0)):=fun w' hb=>by
  have:=Zbm (H.vw.grow hb) h a n c;rwa [he] at this
 have HFT:Hid (Kr w 58 #[.pointer (some ⟨g,0,none⟩),.int .i64 1] (.bool false)):=fun w' hb=>by
  have:=Zfr (H.grow hb) 1;rwa [show fitsN (noc cs) room 1=false by simp [fitsN];omega] at this
 clear H he hf;go_enter Tryz.func38,Tryz.ntmps38
 go_wp2_with (first
  |((with_reducible refine Zo 6 ?_);refine Zd _ rfl _ _ rfl _ rfl ?_;intro w1 b5 hg5 hl5 B5 q5;have HQ5:=Za q5;clear hg5 hl5 B5 q5)
  |(go_at_call 74;refine (HRF.out _ HQ5.out).mono ?_;rintro e w2 ⟨rfl,b2⟩;have HQ2:=Za (Zb HQ5.out b2);clear b2)
  |(go_at_call 58;refine (HFT.out _ HQ2.out).mono ?_;rintro e w3 ⟨rfl,b3⟩;have HQ3:=Za (Zb HQ2.out b3);clear b3))
 go_ret2;exact ⟨rfl,HQ3.out⟩
theorem Zpe (H:Hs w0 S w g gs room cs fr) (h:Nat) (T:Tre) (hT:IsT cs h T) (K:Lq) (hK:Key K) (u:Value) (bs:Lq) (hu:Reads w u bs) (he:vRf true (cot cs h) (cat cs h) h bs.length=0) (hr:vRt true (cot cs h) (cat cs h) h=0) (hf:noc cs+258≤room) (hsm:T.efin K=[(K,bs)]):Kc 38 #[.pointer (some ⟨g,0,none⟩),.int .i64 (h:Int),.agg (B K),u] w fun e w'=>e=.returned (.tuple #[.int .i64 (h:Int),.int .i64 0])∧Kb w w':=by
 have HPN:Hid (Kr w 75 #[.pointer (some ⟨g,0,none⟩),.int .i64 (h:Int),.agg (B K),u] (.tuple #[.slice none 0 0,.bool true,.int .i64 0])):=fun w' hb=>Zll (H.vw.grow hb) H.2 h T hT K hK hr u bs (hu.grow hb) hsm
 obtain ⟨a,c,hue,_⟩:=hu;subst hue;have HRF:Hid (Kr w 74 #[.pointer (some ⟨g,0,none⟩),.int .i64 (h:Int),.slice a bs.length c] (.int .i64 0)):=fun w' hb=>by
  have:=Zbm (H.vw.grow hb) h a bs.length c;rwa [he] at this
 have HFT:Hid (Kr w 58 #[.pointer (some ⟨g,0,none⟩),.int .i64 1] (.bool true)):=fun w' hb=>by
  have:=Zfr (H.grow hb) 1;rwa [show fitsN (noc cs) room 1=true by simp [fitsN];omega] at this
 have HPS:Hid ((Tryz.prog.info? 48).map (·.size)=some (B K).size):=by show _=_;rw [Zn,hK.1];exact Zi
 generalize (h:Int)=hh at HPN HRF ⊢;generalize bs.length=n at HPN HRF ⊢;clear H he hf hT hK hr hsm;go_enter Tryz.func38,Tryz.ntmps38
 go_wp2_with (first
  |((with_reducible refine Zo 6 ?_);refine Zd _ rfl _ _ rfl _ rfl ?_;intro w1 b5 hg5 hl5 B5 q5;have HB5:=Za B5;have HQ5:=Za q5;clear hg5 hl5 B5 q5)
  |(go_at_call 74;refine (HRF.out _ HQ5.out).mono ?_;rintro e w2 ⟨rfl,b2⟩;have HQ2:=Za (Zb HQ5.out b2);have HB2:=Za (HB5.out.grow b2);clear b2)
  |(go_at_call 58;refine (HFT.out _ HQ2.out).mono ?_;rintro e w3 ⟨rfl,b3⟩;have HQ3:=Za (Zb HQ2.out b3);have HB3:=Za (HB2.out.grow b3);clear b3)
  |((with_reducible refine Zk 29 6 ?_);refine Zg _ rfl _ _ rfl b5 _ rfl HB3.out _ _ Tryz.underlying48 HPS.out ?_)
  |(go_at_call 75;refine (HPN.out _ HQ3.out).mono ?_;rintro e w4 ⟨rfl,b4⟩;have HQ4:=Za (Zb HQ3.out b4);clear b4))
 go_ret2;exact ⟨rfl,HQ4.out⟩
theorem Zwx (H:Hs w0 S w g gs room cs fr) (h:Nat) (T:Tre) (hT:IsT cs h T) (K:Lq) (hK:Key K) (u:Value) (bs:Lq) (hu:Reads w u bs) (he:vRf true (cot cs h) (cat cs h) h bs.length=0) (hr:vRt true (cot cs h) (cat cs h) h=0) (hsm:T.efin K=[(K,bs)]):Kc 96 #[.pointer (some ⟨g,0,none⟩),.int .i64 (h:Int),.agg (B K),u] w fun e w'=>e=.returned (.tuple #[.int .i64 0,.int .i64 0])∧Kb w w':=by
 have HPN:Hid (Kr w 75 #[.pointer (some ⟨g,0,none⟩),.int .i64 (h:Int),.agg (B K),u] (.tuple #[.slice none 0 0,.bool true,.int .i64 0])):=fun w' hb=>Zll (H.vw.grow hb) H.2 h T hT K hK hr u bs (hu.grow hb) hsm
 obtain ⟨a,c,hue,_⟩:=hu;subst hue;have HRF:Hid (Kr w 74 #[.pointer (some ⟨g,0,none⟩),.int .i64 (h:Int),.slice a bs.length c] (.int .i64 0)):=fun w' hb=>by
  have:=Zbm (H.vw.grow hb) h a bs.length c;rwa [he] at this
 have HPS:Hid ((Tryz.prog.info? 48).map (·.size)=some (B K).size):=by show _=_;rw [Zn,hK.1];exact Zi
 generalize (h:Int)=hh at HPN HRF ⊢;generalize bs.length=n at HPN HRF ⊢;clear H he hT hK hr hsm;go_enter Tryz.func96,Tryz.ntmps96
 go_wp2_with (first
  |((with_reducible refine Zo 6 ?_);refine Zd _ rfl _ _ rfl _ rfl ?_;intro w1 b5 hg5 hl5 B5 q5;have HB5:=Za B5;have HQ5:=Za q5;clear hg5 hl5 B5 q5)
  |(go_at_call 74;refine (HRF.out _ HQ5.out).mono ?_;rintro e w2 ⟨rfl,b2⟩;have HQ2:=Za (Zb HQ5.out b2);have HB2:=Za (HB5.out.grow b2);clear b2)
  |((with_reducible refine Zk 24 6 ?_);refine Zg _ rfl _ _ rfl b5 _ rfl HB2.out _ _ Tryz.underlying48 HPS.out ?_)
  |(go_at_call 75;refine (HPN.out _ HQ2.out).mono ?_;rintro e w4 ⟨rfl,b4⟩;have HQ4:=Za (Zb HQ2.out b4);clear b4))
 go_ret2;exact ⟨rfl,HQ4.out⟩
theorem Ybk (H:Hs w0 S w g gs room cs fr) (h:Nat) (T:Tre) (hT:IsT cs h T) (K:Lq) (hK:Key K) (u:Value) (bs:Lq) (hu:Reads w u bs) (he:vRf true (cot cs h) (cat cs h) h bs.length=0) (hr:vRt true (cot cs h) (cat cs h) h=0) (hne:T.efin K≠[(K,bs)]) (ss:List Nat) (hss:BesIs K T h ss) (h256:ss.length≤256) (hct:∀i,cc cs i<1073741824):Kc 96 #[.pointer (some ⟨g,0,none⟩),.int .i64 (h:Int),.agg (B K),u] w fun e w'=>e=.returned (.tuple #[.int .i64 ((1+ss.length:Nat):Int),.int .i64 0])∧Kb w w':=by
 have HPN:Hid (∀w',Kb w w'→Kc 75 #[.pointer (some ⟨g,0,none⟩),.int .i64 (h:Int),.agg (B K),u] w' fun e w''=>∃a c,e=.returned (.tuple #[.slice a ss.length c,.bool false,.int .i64 0])∧w''.ownsRow w'.heap.size 3 1 (.slice a ss.length c) ss.length (nats ss)∧Below w'.heap.size w' w''):=fun w' hb=>Zpg (H.vw.grow hb) H.2 h T hT K hK hr u bs (hu.grow hb) hne ss hss h256 hct
 obtain ⟨a,c,hue,_⟩:=hu;subst hue;have HRF:Hid (Kr w 74 #[.pointer (some ⟨g,0,none⟩),.int .i64 (h:Int),.slice a bs.length c] (.int .i64 0)):=fun w' hb=>by
  have:=Zbm (H.vw.grow hb) h a bs.length c;rwa [he] at this
 have HPS:Hid ((Tryz.prog.info? 48).map (·.size)=some (B K).size):=by show _=_;rw [Zn,hK.1];exact Zi
 generalize (h:Int)=hh at HPN HRF ⊢;generalize bs.length=n at HPN HRF ⊢;obtain ⟨sn,hsn⟩:∃sn,sn=ss.length:=⟨_,rfl⟩;rw [← hsn] at HPN h256 ⊢;have hw1:wrap64 (1+(sn:Int))=((1+sn:Nat):Int):=by rw [Go.IntWalk.wrap64_in _ (by omega)];omega
 clear H he hT hK hr hne hss hct hsn h256;go_enter Tryz.func96,Tryz.ntmps96
 go_wp2_with (first
  |((with_reducible refine Zo 6 ?_);refine Zd _ rfl _ _ rfl _ rfl ?_;intro w1 b5 hg5 hl5 B5 q5;have HB5:=Za B5;have HQ5:=Za q5;clear hg5 hl5 B5 q5)
  |(go_at_call 74;refine (HRF.out _ HQ5.out).mono ?_;rintro e w2 ⟨rfl,b2⟩;have HQ2:=Za (Zb HQ5.out b2);have HB2:=Za (HB5.out.grow b2);clear b2)
  |((with_reducible refine Zk 24 6 ?_);refine Zg _ rfl _ _ rfl b5 _ rfl HB2.out _ _ Tryz.underlying48 HPS.out ?_)
  |(go_at_call 75;refine (HPN.out _ HQ2.out).mono ?_;rintro e w4 ⟨sa,sc,rfl,o4,b4⟩;have HQ4:=Za (Zb HQ2.out b4);clear b4 o4))
 go_ret2;exact ⟨by first | rfl | (rw [← hw1];rfl),HQ4.out⟩
def PutTo (cs:Lz) (fr:List Nat) (root:Nat) (K bs:Lq) (ss:List Nat) (top:Nat) (cs':Lz) (fr':List Nat):Prop:=
 ∃(v':Value) (cs2:Lz) (fr2:List Nat),CeOk (lfC (lfD K (vaD bs)) K v' bs)∧Rz K ss (tkC (holdM cs ss) fr (1,lfC (lfD K (vaD bs)) K v' bs)) fr.dropLast (tkH (holdM cs ss) fr) cs2 fr2 top∧((root=0∧cs'=cs2∧fr'=fr2)∨(1≤root∧∃n,Run cs2 fr2 [root] cs' fr' n))
def PtPost (w0:World) (S:List Nat) (g gs room:Nat) (cs:Lz) (fr:List Nat) (E:List Ent) (root:Nat) (K bs:Lq) (ss:List Nat) (e:Ending) (w':World):Prop:=
 ∃(top:Nat) (cs':Lz) (fr':List Nat),e=.returned (.tuple #[.int .i64 (top:Int),.int .i64 0])∧PutTo cs fr root K bs ss top cs' fr'∧PutOk cs E K bs root top ss cs'∧Hs w0 S w' g gs room cs' fr'
theorem Zdk {ss:List Nat} (b:BesOk cs E K ss):∀x∈ss,x=0∨0<cc cs (x-1):=fun x hx=>by
 obtain ⟨d,hd,e⟩:=List.getElem_of_mem hx;obtain ⟨V,v1,_⟩:=b.side d hd;have:ss.getD d 0=x:=by rw [List.getD_eq_getElem?_getD,List.getElem?_eq_getElem hd];exact e
 rw [this] at v1;rcases v1.occ with q | q
 ·exact .inl q
 ·exact .inr q.2
theorem Zuv (H0:Hs w0 S0 w g gs room cs fr) (h:Nat) (T:Tre) (hT:IsT cs h T) (K:Lq) (hK:Key K) (u:Value) (bs:Lq) (hu0:Kq S0 w0 (fun w'=>Reads w' u bs)) (hL0:Kq S0 w0 Laid) (he:vRf true (cot cs h) (cat cs h) h bs.length=0) (hl:bs.length≤1024) (hr:vRt true (cot cs h) (cat cs h) h=0) (ho:h=0∨0<own cs [] (h-1)) (hf:noc cs+258≤room) (hne:T.efin K≠[(K,bs)]) (ss:List Nat) (hss:BesIs K T h ss) (hbo:BesOk cs T.ents K ss) (hct:∀i,cc cs i+257<1073741824):
  Kc 38 #[.pointer (some ⟨g,0,none⟩),.int .i64 (h:Int),.agg (B K),u] w (PtPost w0 S0 g gs room cs fr T.ents h K bs ss):=by
 have h256:=hbo.len;obtain ⟨S,H,hN,hkq,hS,hbk⟩:=H0.from
 have hu:=hkq _ hu0;have hL:=hkq _ hL0;have hW:=H.2;have hmk:=Yat hW ss.length ss rfl (Zdk hbo);have HPN:Hid (∀w',Kb w w'→Kc 75 #[.pointer (some ⟨g,0,none⟩),.int .i64 (h:Int),.agg (B K),u] w' fun e w''=>∃a c,e=.returned (.tuple #[.slice a ss.length c,.bool false,.int .i64 0])∧w''.ownsRow w'.heap.size 3 1 (.slice a ss.length c) ss.length (nats ss)∧Below w'.heap.size w' w''):=fun w' hb=>Zpg (H.vw.grow hb) H.2 h T hT K hK hr u bs (hu.now.grow hb) hne ss hss h256 (fun i=>by have:=hct i;omega)
 have HHA:Hid (∀w4 a c,Kb w w4→w4.ownsRow w.heap.size 3 1 (.slice a ss.length c) ss.length (nats ss)→Kc 76 #[.pointer (some ⟨g,0,none⟩),.slice a ss.length c] w4 fun e w5=>e=.returned (.slice none 0 0)∧Hs w4 S w5 g gs room (holdM cs ss) fr):=fun w4 a c hb o=>Zii (H.rebase hb) a _ c ss (Zfq o rfl (fun k hk hm=>by have:=(o.lt k hk).1;have:=hS k hm;omega)) rfl (by omega) (Zdk hbo) (fun _ i=>by have:=hct i;omega)
 have HRA:Hid (∀w4 a c w5,Kb w w4→w4.ownsRow w.heap.size 3 1 (.slice a ss.length c) ss.length (nats ss)→Hs w4 S w5 g gs room (holdM cs ss) fr→Kc 77 #[.pointer (some ⟨g,0,none⟩),.agg (B K),u,.slice a ss.length c] w5 fun e w6=>∃top:Nat,e=.returned (.int .i64 (top:Int))∧∃v' cs2 fr2,CeOk (lfC (lfD K (vaD bs)) K v' bs)∧Rz K ss (tkC (holdM cs ss) fr (1,lfC (lfD K (vaD bs)) K v' bs)) fr.dropLast (tkH (holdM cs ss) fr) cs2 fr2 top∧RzI cs T.ents K bs ss 0 cs2 top∧Hs w S w6 g gs room cs2 fr2):=fun w4 a c w5 hb o h5=>by
  have i4:Kq S w4 (fun w'=>Ints9 w' a ss):=Zfq o rfl (fun k hk hm=>by have:=(o.lt k hk).1;have:=hS k hm;omega);obtain ⟨S5,H5,hN5,hkq5,hS5,hbk5⟩:=h5.from
  refine (Zuu H5 hS5 hW hK hbo hmk hf a _ c rfl (hkq5 _ i4) (hkq5 _ (hL.grow hb)) u (hkq5 _ (hu.grow hb)) hl).mono ?_;rintro e w6 ⟨top,v',cs2,fr2,rfl,r1,r2,r3,r4⟩;exact ⟨top,rfl,v',cs2,fr2,r1,r2,r3,Hs.back hb (hbk5 _ _ _ r4)⟩
 have HDR:Hid (∀w6 (top:Nat),(∃v' cs2 fr2,CeOk (lfC (lfD K (vaD bs)) K v' bs)∧Rz K ss (tkC (holdM cs ss) fr (1,lfC (lfD K (vaD bs)) K v' bs)) fr.dropLast (tkH (holdM cs ss) fr) cs2 fr2 top∧RzI cs T.ents K bs ss 0 cs2 top∧Hs w S w6 g gs room cs2 fr2)→Kc 55 #[.pointer (some ⟨g,0,none⟩),.int .i64 (h:Int)] w6 fun e w7=>∃x y:Int,e=.returned (.tuple #[.int .i64 x,.int .i64 y])∧∃cs' fr',PutTo cs fr h K bs ss top cs' fr'∧PutOk cs T.ents K bs h top ss cs'∧Hs w S w7 g gs room cs' fr'):=fun w6 top ⟨v',cs2,fr2,r1,r2,r3,r4⟩=>by
  by_cases h0:h=0
  ·subst h0;refine (Zgr r4 0 (by show (0:Nat)≤_;exact Nat.zero_le _)).mono ?_;rintro e w7 ⟨rfl,h7⟩;exact ⟨0,7,rfl,cs2,fr2,⟨v',cs2,fr2,r1,r2,.inl ⟨rfl,rfl,rfl⟩⟩,Ydy r3,h7⟩
  ·have ho1:=ho.resolve_left h0;have ho2:0<own cs2 [] (h-1):=by
    have:=r3.own (h-1);rw [List.take_zero,List.count_nil] at this;omega
   have hd:=Zwa r4 (h-1) ho2;rw [show h-1+1=h by omega] at hd;refine hd.mono ?_;rintro e w7 ⟨cs',fr',k,hrun,hst,rfl,h7⟩;exact ⟨_,_,rfl,cs',fr',⟨v',cs2,fr2,r1,r2,.inr ⟨by omega,k,hrun⟩⟩,Ydx r3 ho1 (by omega) hrun hst,h7⟩
 have HH2:Hid (∀w7 (top:Nat),(∃cs' fr',PutTo cs fr h K bs ss top cs' fr'∧PutOk cs T.ents K bs h top ss cs'∧Hs w S w7 g gs room cs' fr')→Kc 76 #[.pointer (some ⟨g,0,none⟩),.slice none 0 0] w7 fun e w8=>e=.returned (.slice none 0 0)∧∃cs' fr',PutTo cs fr h K bs ss top cs' fr'∧PutOk cs T.ents K bs h top ss cs'∧Hs w S w8 g gs room cs' fr'):=fun w7 top ⟨cs',fr',p1,p2,p3⟩=>by
  obtain ⟨S7,H7,hN7,hkq7,hS7,hbk7⟩:=p3.from
  refine (Zii H7 none 0 0 [] (fun _ _ k hk=>absurd hk (by simp)) rfl (by omega) (fun x hx=>by cases hx) (fun q=>by omega)).mono ?_;rintro e w8 ⟨rfl,h8⟩;exact ⟨rfl,cs',fr',p1,p2,hbk7 _ _ _ h8⟩
 have HRF:Hid (Kr w 74 #[.pointer (some ⟨g,0,none⟩),.int .i64 (h:Int),u] (.int .i64 0)):=fun w' hb=>by
  obtain ⟨a,c,hue,_⟩:=hu.now;have:=Zbm (H.vw.grow hb) h a bs.length c;rw [he] at this;rw [hue];exact this
 have HFT:Hid (Kr w 58 #[.pointer (some ⟨g,0,none⟩),.int .i64 1] (.bool true)):=fun w' hb=>by
  have:=Zfr (H.grow hb) 1;rwa [show fitsN (noc cs) room 1=true by simp [fitsN];omega] at this
 have HPS:Hid ((Tryz.prog.info? 48).map (·.size)=some (B K).size):=by show _=_;rw [Zn,hK.1];exact Zi
 have HPost:Hid (∀w8 (top:Nat),(∃cs' fr',PutTo cs fr h K bs ss top cs' fr'∧PutOk cs T.ents K bs h top ss cs'∧Hs w S w8 g gs room cs' fr')→PtPost w0 S0 g gs room cs fr T.ents h K bs ss (.returned (.tuple #[.int .i64 (top:Int),.int .i64 0])) w8):=fun w8 top ⟨cs',fr',p1,p2,p3⟩=>⟨top,cs',fr',rfl,p1,p2,hbk _ _ _ p3⟩
 have HBK:Hid (∀w4 w5 b6,Kb w w4→w.heap.size≤b6→Blk w4 b6 48 (B K)→Hs w4 S w5 g gs room (holdM cs ss) fr→Blk w5 b6 48 (B K)):=fun w4 w5 b6 hb hg hB h5=>h5.kq (Kq.blk hB (fun e=>by have:=hS _ e;omega))
 obtain ⟨ua,uc,hue,_⟩:=hu.now;clear hu hu0 hL hL0;subst hue;obtain ⟨R7,hR7⟩:∃R7:World→Nat→Prop,R7=fun w7 top=>∃cs' fr',PutTo cs fr h K bs ss top cs' fr'∧PutOk cs T.ents K bs h top ss cs'∧Hs w S w7 g gs room cs' fr':=⟨_,rfl⟩
 obtain ⟨R6,hR6⟩:∃R6:World→Nat→Prop,R6=fun w6 top=>∃v' cs2 fr2,CeOk (lfC (lfD K (vaD bs)) K v' bs)∧Rz K ss (tkC (holdM cs ss) fr (1,lfC (lfD K (vaD bs)) K v' bs)) fr.dropLast (tkH (holdM cs ss) fr) cs2 fr2 top∧RzI cs T.ents K bs ss 0 cs2 top∧Hs w S w6 g gs room cs2 fr2:=⟨_,rfl⟩
 obtain ⟨R5,hR5⟩:∃R5:World→World→Prop,R5=fun w4 w5=>Hs w4 S w5 g gs room (holdM cs ss) fr:=⟨_,rfl⟩
 replace HHA:Hid (∀w4 a c,Kb w w4→w4.ownsRow w.heap.size 3 1 (.slice a ss.length c) ss.length (nats ss)→Kc 76 #[.pointer (some ⟨g,0,none⟩),.slice a ss.length c] w4 fun e w5=>e=.returned (.slice none 0 0)∧R5 w4 w5):=by rw [hR5];exact HHA
 replace HRA:Hid (∀w4 a c w5,Kb w w4→w4.ownsRow w.heap.size 3 1 (.slice a ss.length c) ss.length (nats ss)→R5 w4 w5→Kc 77 #[.pointer (some ⟨g,0,none⟩),.agg (B K),.slice ua bs.length uc,.slice a ss.length c] w5 fun e w6=>∃top:Nat,e=.returned (.int .i64 (top:Int))∧R6 w6 top):=by rw [hR5,hR6];exact HRA
 replace HDR:Hid (∀w6 (top:Nat),R6 w6 top→Kc 55 #[.pointer (some ⟨g,0,none⟩),.int .i64 (h:Int)] w6 fun e w7=>∃x y:Int,e=.returned (.tuple #[.int .i64 x,.int .i64 y])∧R7 w7 top):=by rw [hR6,hR7];exact HDR
 replace HH2:Hid (∀w7 (top:Nat),R7 w7 top→Kc 76 #[.pointer (some ⟨g,0,none⟩),.slice none 0 0] w7 fun e w8=>e=.returned (.slice none 0 0)∧R7 w8 top):=by rw [hR7];exact HH2
 replace HPost:Hid (∀w8 (top:Nat),R7 w8 top→PtPost w0 S0 g gs room cs fr T.ents h K bs ss (.returned (.tuple #[.int .i64 (top:Int),.int .i64 0])) w8):=by rw [hR7];exact HPost
 replace HBK:Hid (∀w4 w5 b6,Kb w w4→w.heap.size≤b6→Blk w4 b6 48 (B K)→R5 w4 w5→Blk w5 b6 48 (B K)):=by rw [hR5];exact HBK
 generalize PtPost w0 S0 g gs room cs fr T.ents h K bs ss=P at HPost ⊢;generalize (h:Int)=hh at HPN HRF HDR ⊢;generalize bs.length=un at HPN HRF HRA ⊢;generalize nats ss=nss at HPN HHA HRA;generalize ss.length=sn at HPN HHA HRA;clear hR7 hR6 hR5 H0 H hN hkq hS hbk hW hmk hT hK he hl hr ho hf hne hss hbo hct h256;go_enter Tryz.func38,Tryz.ntmps38
 go_wp2_with (first
  |((with_reducible refine Zo 6 ?_);refine Zd _ rfl _ _ rfl _ rfl ?_;intro w1 b5 hg5 hl5 B5 q5;have HB5:=Za B5;have HQ5:=Za q5;have HG5:=Za hg5;clear hg5 hl5 B5 q5)
  |(go_at_call 74;refine (HRF.out _ HQ5.out).mono ?_;rintro e w2 ⟨rfl,b2⟩;have HQ2:=Za (Zb HQ5.out b2);have HB2:=Za (HB5.out.grow b2);clear b2)
  |(go_at_call 58;refine (HFT.out _ HQ2.out).mono ?_;rintro e w3 ⟨rfl,b3⟩;have HQ3:=Za (Zb HQ2.out b3);have HB3:=Za (HB2.out.grow b3);clear b3)
  |((with_reducible refine Zk 29 6 ?_);refine Zg _ rfl _ _ rfl b5 _ rfl HB3.out _ _ Tryz.underlying48 HPS.out ?_)
  |(go_at_call 75;refine (HPN.out _ HQ3.out).mono ?_;rintro e w4 ⟨sa,sc,rfl,o4,b4⟩;have HO4:=Za (Zaj o4 HQ3.out.size);have HQ4:=Za (Zb HQ3.out b4);have HB4:=Za (HB3.out.grow b4);clear b4 o4)
  |(go_at_call 76;have mk:=mk1;clear mk;refine (HH2.out _ _ HR7.out).mono ?_;rintro e w8 ⟨rfl,r8⟩;have HR8:=Za r8;clear r8)
  |(go_at_call 76;refine (HHA.out _ _ _ HQ4.out HO4.out).mono ?_;rintro e w5 ⟨rfl,r5⟩;have HR5:=Za r5;have HB6:=Za (HBK.out _ _ _ HQ4.out HG5.out HB4.out r5);clear r5;have mk1:Hid True:=trivial)
  |((with_reducible refine Zk 44 6 ?_);refine Zg _ rfl _ _ rfl b5 _ rfl HB6.out _ _ Tryz.underlying48 HPS.out ?_)
  |(go_at_call 77;refine (HRA.out _ _ _ _ HQ4.out HO4.out HR5.out).mono ?_;rintro e w6 ⟨top,rfl,r6⟩;have HR6:=Za r6;clear r6)
  |(go_at_call 55;refine (HDR.out _ _ HR6.out).mono ?_;rintro e w7 ⟨x7,y7,rfl,r7⟩;have HR7:=Za r7;clear r7))
 exact HPost.out _ _ HR8.out
end Go.Proofs.YtlclabbnpjobgaaGreatDoor
