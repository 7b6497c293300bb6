/- The document's store: fits. -/
import Derived.Test.YtgfdgjkbcdmboaaGreatDoorDs28
namespace Go.Proofs.YtgfdgjkbcdmboaaGreatDoor
variable {S fr fr' st:List Nat}
variable {b b5 c g i n room:Nat}
variable {cs cs':Lz}
variable {ss:List Sp}
variable {vf vp:Value}
variable {w w' w2 w3 wr:World}
set_option maxHeartbeats 8000000
set_option maxRecDepth 20000
open Go.RowKit
theorem Yix (h:Rs w g vp vf room ss fr) (R:Rel7 cs [] [] ss) (W:Wf cs []) (h6:cs.length≤5000) {d:Nat} (hd:d<256) {l r:Int} (ml:mayP cs l) (mr:mayP cs r) {u:Bool} (hu:u=true↔Und (cat cs l).key (cat cs r).key (d:Int)):Kc 169 #[.pointer (some ⟨g,0,none⟩),.int .i64 (d:Int),.int .i64 l,.int .i64 r] w fun e w'=>e=.returned (.bool (fitP d (cat cs l) (cat cs r) u))∧Kb w w':=by
 obtain ⟨nl,TL,el,hTL,sl,kl⟩:=Zvw W ml;obtain ⟨nr,TR,er,hTR,sr,kr⟩:=Zvw W mr;have hfit:=Yjw sl sr hd hu;have fl:=Zfm W hTL h6;have fr':=Zfm W hTR h6;have HEl:Hid (∀w',Kb w w'→Kc 76 #[.pointer (some ⟨g,0,none⟩),.int .i64 l] w' (En7 w TL.ents TL.ents.length w')):=fun w' hb=>by rw [el];exact (Zdc h TL nl w' hb (hTL.s R) (by omega)).mono (fun e w'' hp=>en7 hp)
 have HEr:Hid (∀w',Kb w w'→Kc 76 #[.pointer (some ⟨g,0,none⟩),.int .i64 r] w' (En7 w TR.ents TR.ents.length w')):=fun w' hb=>by rw [er];exact (Zdc h TR nr w' hb (hTR.s R) (by omega)).mono (fun e w'' hp=>en7 hp)
 have HAl:Hid (Kr w 107 #[.pointer (some ⟨g,0,none⟩),.int .i64 l] (.agg (sz7 (sat ss l)).toArray)):=fun w' hb=>Zbc (h.grow hb) l
 have HAr:Hid (Kr w 107 #[.pointer (some ⟨g,0,none⟩),.int .i64 r] (.agg (sz7 (sat ss r)).toArray)):=fun w' hb=>Zbc (h.grow hb) r
 have ol:=Zcf h l;have orr:=Zcf h r;have HLX:Hid ((Tryz.prog.info? 154).map (·.size)=some (sz7 (sat ss l)).toArray.size):=by show _=_;rw [List.size_toArray,Zv _ ol.hk.1];exact Zbs
 have HLY:Hid ((Tryz.prog.info? 154).map (·.size)=some (sz7 (sat ss r)).toArray.size):=by show _=_;rw [List.size_toArray,Zv _ orr.hk.1];exact Zbs
 have HZ:=Za Zct;have HZX:Hid ((sz7 zs7).toArray.size=(sz7 (sat ss l)).toArray.size):=by show _=_;rw [List.size_toArray,List.size_toArray,Zv _ ol.hk.1];rfl
 have HZY:Hid ((sz7 zs7).toArray.size=(sz7 (sat ss r)).toArray.size):=by show _=_;rw [List.size_toArray,List.size_toArray,Zv _ orr.hk.1];rfl
 have H1X:=Za (Zci ol);have H1Y:=Za (Zci orr);have HX0:=Za (Zbz (sat ss l) ol.hk.1).1;have HX1:=Za (Zbz (sat ss l) ol.hk.1).2.1;have HY0:=Za (Zbz (sat ss r) orr.hk.1).1;have HY1:=Za (Zbz (sat ss r) orr.hk.1).2.1;rw [(Zbv R W l).kind] at HX0;rw [(Zbv R W l).d] at HX1;rw [(Zbv R W r).kind] at HY0;rw [(Zbv R W r).d] at HY1;generalize sz7 zs7=Z at HZ HZX HZY;generalize sz7 (sat ss l)=X at HAl HLX HZX H1X HX0 HX1;generalize sz7 (sat ss r)=Y at HAr HLY HZY H1Y HY0 HY1;have hkl:((cat cs l).kind=0∧(l == 0)=true∧TL.ents.length=0)∨((cat cs l).kind=1∧(l == 0)=false∧TL.ents.length=1)∨((cat cs l).kind=2∧(l == 0)=false∧2≤TL.ents.length):=by
  rcases sl.kinds with ⟨a,rfl,c⟩ | ⟨a,b,c,_⟩ | ⟨a,b,c,_⟩
  ·exact .inl ⟨a,rfl,by rw [c];rfl⟩
  ·exact .inr (.inl ⟨a,by simp [b],c⟩)
  ·exact .inr (.inr ⟨a,by simp [b],c⟩)
 have hkr:((cat cs r).kind=0∧(r == 0)=true∧TR.ents.length=0)∨((cat cs r).kind=1∧(r == 0)=false∧TR.ents.length=1)∨((cat cs r).kind=2∧(r == 0)=false∧2≤TR.ents.length):=by
  rcases sr.kinds with ⟨a,rfl,c⟩ | ⟨a,b,c,_⟩ | ⟨a,b,c,_⟩
  ·exact .inl ⟨a,rfl,by rw [c];rfl⟩
  ·exact .inr (.inl ⟨a,by simp [b],c⟩)
  ·exact .inr (.inr ⟨a,by simp [b],c⟩)
 unfold Pre7 at hfit;generalize fitP d (cat cs l) (cat cs r) u=b at hfit ⊢;obtain ⟨dl,hdl⟩:∃x:Int,x=((cat cs l).dp:Int):=⟨_,rfl⟩;obtain ⟨dr,hdr⟩:∃x:Int,x=((cat cs r).dp:Int):=⟨_,rfl⟩;rw [← hdl] at HX1;rw [← hdr] at HY1;generalize (cat cs l).dp=dpl at hdl hfit;generalize (cat cs r).dp=dpr at hdr hfit;generalize (cat cs l).kind=kl' at hkl HX0 hfit;generalize (cat cs r).kind=kr' at hkr HY0 hfit;generalize hes:TL.ents++TR.ents=es at hfit;have HES:=Za hes;have hle:es.length=TL.ents.length+TR.ents.length:=by rw [← hes,List.length_append]
 generalize TL.ents=A at HEl HES hkl fl hle hfit;generalize TR.ents=C at HEr HES hkr fr' hle hfit;obtain ⟨n1,hn1⟩:∃n1,n1=A.length:=⟨_,rfl⟩;obtain ⟨n2,hn2'⟩:∃n2,n2=C.length:=⟨_,rfl⟩;rw [← hn1] at HEl hkl fl hle hfit;rw [← hn2'] at HEr hkr fr' hle hfit;clear h R W sl sr hTL hTR kl kr ol orr hes ml mr hu h6 el er;have F:FitH w g d l r X Y Z kl' kr' dl dr A C es n1 n2 b dpl dpr:=⟨HEl.out,HEr.out,HAl.out,HAr.out,HLX.out,HLY.out,HZ.out,HZX.out,HZY.out,H1X.out,H1Y.out,HX0.out,HX1.out,HY0.out,HY1.out,hdl,hdr,HES.out,hle,fl,fr',hfit⟩;have nb:(b=true→False)→b=false:=fun h=>by cases b with
  | false=>rfl
  | true=>exact (h rfl).elim
 have hb1:=fun h=>F.hfit.1 h
 have e1:=F.hdl;have e2:=F.hdr;rcases hkl with ⟨rfl,ql,ll⟩ | ⟨rfl,ql,ll⟩ | ⟨rfl,ql,ll⟩
 ·rcases hkr with ⟨rfl,qr,lr⟩ | ⟨rfl,qr,lr⟩ | ⟨rfl,qr,lr⟩
  ·exact Zcv F hd (nb fun h=>by have:=hb1 h;omega) (.inl ⟨rfl,rfl,ql,qr⟩)
  ·exact Zcv F hd (nb fun h=>by have:=hb1 h;omega) (.inr (.inl ⟨rfl,rfl,ql,qr⟩))
  ·by_cases x:dr=(d:Int)+1
   ·exact Zfj F hd (.inr (.inr (.inr (.inl ⟨rfl,rfl,ql,qr,ll,lr,x⟩))))
   ·exact Zcv F hd (nb fun h=>by have:=(hb1 h).2.2.1 rfl;omega) (.inr (.inr (.inr (.inr (.inr (.inr (.inl ⟨rfl,rfl,ql,qr,by simp [x]⟩)))))))
 ·rcases hkr with ⟨rfl,qr,lr⟩ | ⟨rfl,qr,lr⟩ | ⟨rfl,qr,lr⟩
  ·exact Zcv F hd (nb fun h=>by have:=hb1 h;omega) (.inr (.inr (.inl ⟨rfl,rfl,ql,qr⟩)))
  ·exact Zfj F hd (.inr (.inr (.inr (.inr (.inr ⟨rfl,rfl,ql,qr,ll,lr⟩)))))
  ·by_cases x:dr=(d:Int)+1
   ·exact Zfj F hd (.inr (.inr (.inr (.inr (.inl ⟨rfl,rfl,ql,qr,ll,lr,x⟩)))))
   ·exact Zcv F hd (nb fun h=>by have:=(hb1 h).2.2.1 rfl;omega) (.inr (.inr (.inr (.inr (.inr (.inr (.inr (.inl ⟨rfl,rfl,ql,qr,by simp [x]⟩))))))))
 ·by_cases y:dl=(d:Int)+1
  ·rcases hkr with ⟨rfl,qr,lr⟩ | ⟨rfl,qr,lr⟩ | ⟨rfl,qr,lr⟩
   ·exact Zfj F hd (.inl ⟨rfl,rfl,ql,qr,ll,lr,y⟩)
   ·exact Zfj F hd (.inr (.inl ⟨rfl,rfl,ql,qr,ll,lr,y⟩))
   ·by_cases x:dr=(d:Int)+1
    ·exact Zfj F hd (.inr (.inr (.inl ⟨rfl,rfl,ql,qr,ll,lr,y,x⟩)))
    ·exact Zcv F hd (nb fun h=>by have:=(hb1 h).2.2.1 rfl;omega) (.inr (.inr (.inr (.inr (.inr (.inr (.inr (.inr ⟨rfl,rfl,ql,qr,y,by simp [x]⟩))))))))
  ·have hz:b=false:=nb fun h=>by have:=(hb1 h).2.1 rfl;omega
   rcases hkr with ⟨rfl,qr,lr⟩ | ⟨rfl,qr,lr⟩ | ⟨rfl,qr,lr⟩
   ·exact Zcv F hd hz (.inr (.inr (.inr (.inl ⟨rfl,rfl,ql,qr,by simp [y]⟩))))
   ·exact Zcv F hd hz (.inr (.inr (.inr (.inr (.inl ⟨rfl,rfl,ql,qr,by simp [y]⟩)))))
   ·exact Zcv F hd hz (.inr (.inr (.inr (.inr (.inr (.inl ⟨rfl,rfl,ql,qr,by simp [y]⟩))))))
theorem Run.frlen (h:Run cs fr st cs' fr' n):fr'.length=fr.length+n:=by
 induction h with
 | done=>rfl
 | keep _ _ ih=>exact ih
 | free _ _ ih=>rw [ih,List.length_append,List.length_singleton];omega
theorem Ygo (cs:Lz) (i j:Nat):cc (lessC cs i) j≤cc cs j:=by
 by_cases hi:i<cs.length
 ·unfold lessC;rw [Zfo cs i j _ hi];split
  ·next e=>rw [e];exact Nat.sub_le _ _
  ·exact Nat.le_refl _
 ·unfold lessC;rw [List.set_eq_of_length_le (by omega)];exact Nat.le_refl _
theorem Zym (cs:Lz) (i j:Nat) (hi:i<cs.length):cc (freeC cs i) j≤cc cs j:=by
 unfold freeC;rw [(Zgr _ _).cc,(Zgr _ _).cc,Zfo cs i j _ hi];split
 ·exact Nat.zero_le _
 ·exact Nat.le_refl _
theorem Run.cc_le (h:Run cs fr st cs' fr' n) (j:Nat):cc cs' j≤cc cs j:=by
 induction h with
 | done=>exact Nat.le_refl _
 | keep _ _ ih=>exact Nat.le_trans ih (Ygo _ _ _)
 | free hc _ ih=>exact Nat.le_trans ih (Zym _ _ _ (Zbu (by omega)))
theorem Run.step2 (h:Run cs fr st cs' fr' n):∀rest,Wf cs (st++rest)→Step cs (st++rest) cs' rest n:=by
 induction h with
 | done cs fr=>exact fun rest h=>⟨h,rfl,fun _=>rfl,rfl,fun _ hi=>⟨hi,Core.refl _⟩⟩
 | keep hc _ ih=>
  intro rest h;have s:=Zge (st:=_++rest) h hc;have:=s.trans (ih rest s.wf);rwa [Nat.zero_add] at this
 | @free _ _ _ _ _ _ m hc _ ih=>
  intro rest h;have s:=Zet (st:=_++rest) h hc;simp only [List.append_assoc] at ih;have:=s.trans (ih rest s.wf);rw [Nat.add_comm 1 m] at this;exact this
theorem Rq.cell {X:Array Value} (h:Rq w S g room ss fr b5 X wr) (j:Nat):wr.cell? ⟨b5,j,none⟩=X[j]?:=by
 obtain ⟨_,_,_,_,_,h4,_⟩:=h;exact h4.cell j
theorem Zsc {w5:World} {nn nf fc c5:Nat} {fa a5:Option Addr} {X:Array Value} {q:Int} (_h:Rs w g (.slice (some ⟨b,0,none⟩) nn c) (.slice fa nf fc) room ss fr) (hb:Kb w w2) (hn:b5 ∉ rsB g (.slice (some ⟨b,0,none⟩) nn c) (.slice fa nf fc) ss) (hX:Blk w3 b5 154 X) (m3:Mod [b] w2 w3) (h4:Rs (w3.alloc (.cells #[.int .i64 q] 3)) g (.slice (some ⟨b,0,none⟩) nn c) (.slice fa nf fc) room (ss.set i zs7) fr) (l5:Lst w5 3 1 (.slice a5 (nf+1) c5) (nf+1) (nats fr++[.int .i64 q])) (g5:(w3.alloc (.cells #[.int .i64 q] 3)).grownBy w5 (Value.slice fa nf fc).ownBlock) (wh:WhereL (w3.alloc (.cells #[.int .i64 q] 3)) (.slice fa nf fc) (.slice a5 (nf+1) c5)) (hf:nf=fr.length) (hq:q=(i:Int)+1) (h6:nf+1≤65536):Rq w (rsB g (.slice (some ⟨b,0,none⟩) nn c) (.slice fa nf fc) ss) g room (ss.set i zs7) (fr++[i+1]) b5 X (w5.setCell ⟨g,3,none⟩ (.slice a5 (nf+1) c5)):=by
 subst hf hq;have b4:=Zh w3 (.cells #[.int .i64 ((i:Int)+1)] 3);have hl:Lst w5 3 1 (.slice a5 (fr.length+1) c5) (fr++[i+1]).length (nats (fr++[i+1])):=by
  rw [Zau,List.length_append,List.length_singleton];exact l5
 obtain ⟨r1,r2⟩:=h4.newF (fr':=fr++[i+1]) hl g5 rfl (by rw [List.length_append,List.length_singleton];exact h6);have hin:∀k∈g::(Value.slice fa fr.length fc).ownBlock.toList,k∈rsB g (.slice (some ⟨b,0,none⟩) nn c) (.slice fa fr.length fc) ss:=fun k hk=>by
  rcases List.mem_cons.1 hk with rfl | hk
  ·exact Zt.2 (.inl rfl)
  ·exact Zt.2 (.inr (.inr (.inl (Option.mem_toList.1 hk))))
 have hb':∀k∈[b],k∈rsB g (.slice (some ⟨b,0,none⟩) nn c) (.slice fa fr.length fc) ss:=fun k hk=>by
  obtain rfl:k=b:=by simpa using hk
  exact Zt.2 (.inr (.inl rfl))
 have m:Mod (rsB g (.slice (some ⟨b,0,none⟩) nn c) (.slice fa fr.length fc) ss) w (w5.setCell ⟨g,3,none⟩ (.slice a5 (fr.length+1) c5)):=(((Mod.of_below hb _).trans' (m3.mono hb')).trans' (Mod.of_below b4 _)).trans' (r2.mono hin);have hX4:=hX.grow b4;refine ⟨_,_,r1,m,fun k hk=>?_,hX4.mod r2 (fun e=>hn (hin _ e)),fun e=>?_⟩
 ·rcases Zt.1 hk with h1 | h1 | h1 | ⟨s,hs,h1⟩
  ·exact .inl (Zt.2 (.inl h1))
  ·exact .inl (Zt.2 (.inr (.inl h1)))
  ·rcases wh with e | ⟨k',e,hk'⟩
   ·rw [e] at h1;exact .inl (Zt.2 (.inr (.inr (.inl h1))))
   ·rw [e] at h1;injection h1 with h1;subst h1;have:=hb.size;have:=m3.size;have:=b4.size;exact .inr (by omega)
  ·rcases Zcm hs with rfl | hs
   ·cases h1
   ·exact .inl (Zt.2 (.inr (.inr (.inr ⟨s,hs,h1⟩))))
 ·rcases Zt.1 e with h1 | h1 | h1 | ⟨s,hs,h1⟩
  ·exact hn (Zt.2 (.inl h1))
  ·exact hn (Zt.2 (.inr (.inl h1)))
  ·rcases wh with e | ⟨k',e,hk'⟩
   ·rw [e] at h1;exact hn (Zt.2 (.inr (.inr (.inl h1))))
   ·rw [e] at h1;injection h1 with h1;subst h1;have:=hX4.lt;omega
  ·rcases Zcm hs with rfl | hs
   ·cases h1
   ·exact hn (Zt.2 (.inr (.inr (.inr ⟨s,hs,h1⟩))))
theorem Rq.setSd {w6:World} {b6 n6 c6:Nat} {vf6:Value} {X:Array Value} (q1:Rs w6 g (.slice (some ⟨b6,0,none⟩) n6 c6) vf6 room ss fr) (q2:Mod S w w6) (q3:New S w (rsB g (.slice (some ⟨b6,0,none⟩) n6 c6) vf6 ss)) (q4:Blk w6 b5 154 X) (q5:b5 ∉ rsB g (.slice (some ⟨b6,0,none⟩) n6 c6) vf6 ss) (k:Nat) (hk:(spAt ss k).kind≠0) (m:Nat):Rq w S g room (ss.set k { spAt ss k with sd:=m}) fr b5 X (w6.setCell ⟨b6,k * 39+38,none⟩ (.int .i64 (m:Int))).drew:=by
 have m1:Mod (rsB g (.slice (some ⟨b6,0,none⟩) n6 c6) vf6 ss) w6 (w6.setCell ⟨b6,k * 39+38,none⟩ (.int .i64 (m:Int))).drew:=(Mod.setCell _ _ _ _ (Zt.2 (.inr (.inl rfl)))).trans' (Mod.drew _ _);have hs:=Zlt (g:=g) (vp:=.slice (some ⟨b6,0,none⟩) n6 c6) (vf:=vf6) (s':={ spAt ss k with sd:=m}) (Zfr hk) rfl;refine ⟨_,_,(q1.setSd k hk m).mod (Mod.drew [] _) (fun _ _ h=>by cases h),q2.trans q3 m1,fun x hx=>q3 x (hs x hx),q4.mod m1 q5,fun e=>q5 (hs _ e)⟩
def FreeC (g room n:Nat):Prop:=∀(cs cs':Lz) (i:Nat) (rest:List Nat) (ss:List Sp) (fr fr':List Nat) (w:World) (vp vf:Value),Wf cs ((i+1)::rest)→(∀j,cc cs j≤1073741824)→fr.length+noc cs≤65536→Rel7 cs ((i+1)::rest) rest ss→Rs w g vp vf room ss fr→Run cs fr [i+1] cs' fr' n→
 Kc 116 #[.pointer (some ⟨g,0,none⟩),.int .i64 ((i:Int)+1)] w fun e w'=>e=.returned (.int .i64 (n:Int))∧∃ss',Rel7 cs' rest rest ss'∧RT7 w g (rsB g vp vf ss) room ss' fr' w'
theorem Yax (IH:FreeC g room n) {cs cs':Lz} {k:Nat} {rest:List Nat} {fr fr':List Nat} (w:Wf cs ((k+1)::rest)) (hM:∀j,cc cs j≤1073741824) (hF:fr.length+noc cs≤65536) (R:Run cs fr [k+1] cs' fr' n) (ss:List Sp) (hr:Rel7 cs ((k+1)::rest) ((k+1)::rest) ss):∃m:Nat,(spAt ss k).sd=m+1∧(spAt ss k).kind≠0∧k<ss.length∧m<1073741824∧∀(wr:World) (vp vf:Value),Rs wr g vp vf room (ss.set k { spAt ss k with sd:=m}) fr→Kc 116 #[.pointer (some ⟨g,0,none⟩),.int .i64 ((k:Int)+1)] wr fun e w'=>e=.returned (.int .i64 (n:Int))∧∃ss',Rel7 cs' rest rest ss'∧RT7 wr g (rsB g vp vf (ss.set k { spAt ss k with sd:=m})) room ss' fr' w':=by
 have hc:0<cc cs k:=by
  have:=w.le k;rw [List.count_cons_self] at this;omega
 have hk:k<ss.length:=by rw [hr.len];exact Zbu hc
 obtain ⟨m,h1,h2⟩:=hr.side hk;refine ⟨m,h1,(hr.inn w k).2 hc,hk,?_,fun wr vp vf hR=>IH cs cs' k rest _ fr fr' wr vp vf w hM hF h2 hR R⟩;have h3:=hr.sd k;have h4:=w.le k;have h5:=hM k;omega
set_option maxRecDepth 100000 in
theorem Zpn (g room N:Nat) (IH:∀n,n<N→FreeC g room n):FreeC g room N:=by
 intro cs cs' i rest ss fr fr' w vp vf hW hM hF hrel h R;have hil:i<ss.length:=by
  rw [hrel.len];apply Zbu;have:=hW.le i;rw [List.count_cons_self] at this;omega
 cases R with
 | keep hc R=>
  cases R
  obtain ⟨h1,h2⟩:=hrel.less hW hc;have hb:(spAt ss i).own+(spAt ss i).sd≤1073741824:=by
   have h3:=hW.own i;have h4:=hM i;rw [List.count_cons_self] at h3;rw [hrel.own,hrel.sd];omega
  refine (Zpo h i hil h2 hb).mono ?_;rintro e w' ⟨rfl,b1⟩;exact ⟨rfl,ss,h1,vp,vf,h.grow b1,Mod.of_below b1 _,New.refl _ _⟩
 | free hc R=>
  rename_i n0;obtain ⟨hrel1,hz⟩:=hrel.free hW hc;have s1:=Zet hW hc;have hM1:∀j,cc (freeC cs i) j≤1073741824:=fun j=>Nat.le_trans (Zym cs i j (Zbu (by omega))) (hM j)
  have hF1:(fr++[i+1]).length+noc (freeC cs i)≤65536:=by
   have:=s1.noc;rw [List.length_append,List.length_singleton];omega
  obtain ⟨cs1,fr1,n1,n2,R1,R2,hn⟩:=R.split (ne0 (ce cs i).l) (ne0 (ce cs i).r++[]) rfl;rw [List.append_nil] at R2;have s2:=R1.step2 (ne0 (ce cs i).r++rest) s1.wf;have hM2:∀j,cc cs1 j≤1073741824:=fun j=>Nat.le_trans (R1.cc_le j) (hM1 j)
  have hF2:fr1.length+noc cs1≤65536:=by
   have:=s2.noc;have:=R1.frlen;omega
  have ok:=Zdb h i;have hl:=hrel.l i;have hr:=hrel.r i;have ho:(spAt ss i).own=0:=by omega
  have hs:(spAt ss i).sd=0:=by omega
  have HAT:=Za (Zbz (spAt ss i) ok.hk.1);rw [hl,hr,ho,hs,show ((0:Nat):Int)=0 from rfl] at HAT;obtain ⟨fa,fc,hvf⟩:=Zo h.frs;subst hvf;obtain ⟨b,c,hvp,-,-,-,j0,j1,hw⟩:=h.num i hil;subst hvp;have c2:=h.c2;have HR:=Za h;have HRG:=Za (h.range i hil);have HL:Hid ((Tryz.prog.info? 154).map (·.size)=some (sz7 (spAt ss i)).length):=by
   show _=_;rw [Zv _ ok.hk.1];exact Zbs
  have HL2:Hid ((Tryz.prog.info? 154).map (·.size)=some (sz7 (spAt ss i)).toArray.size):=HL.out;have HL3:Hid ((sz7 zs7).toArray.size=(sz7 (spAt ss i)).toArray.size):=by
   show (sz7 zs7).length=(sz7 (spAt ss i)).length;rw [Zv _ ok.hk.1];rfl
  have H1:=Za (Zci ok);have HZ0:=Za Zct;have HBZ:=Za Zla;obtain ⟨Z,hZ⟩:∃Z,Z=sz7 zs7:=⟨_,rfl⟩;have HZE:Hid (sz7 zs7=Z):=hZ.symm;have HLZ:Hid ((Tryz.prog.info? 154).map (·.size)=some Z.length):=by rw [hZ];exact Zbs
  have HZL:Hid (Z.length=39):=by rw [hZ];exact Zv zs7 Zgw
  have HZ1:Hid (∀u∈Z,u.oneCell'=true):=by rw [hZ];exact Zci Zhp
  rw [HZE.out] at HL3 HZ0 HBZ;generalize sz7 (spAt ss i)=X at HRG HL HL2 HL3 H1 HAT;obtain ⟨q,hq⟩:∃q:Int,q=(i:Int)+1:=⟨_,rfl⟩;rw [← hq];have HQ:=Za hq;have h3:q-1=(i:Int):=by rw [hq];exact Int.add_sub_cancel _ _
  have HIL:=Za hil;obtain ⟨nn,hnn⟩:∃nn,nn=ss.length:=⟨_,rfl⟩;rw [← hnn] at c2 HR j1;rw [← hnn];have HNN:=Za hnn;have hin:i<nn:=by rw [hnn];exact hil
  obtain ⟨nf,hnf⟩:∃nf,nf=fr.length:=⟨_,rfl⟩;rw [← hnf] at HR;rw [← hnf];have HNF:=Za hnf;have HFL:Hid (nf+1≤65536):=by
   rw [List.length_append,List.length_singleton] at hF1;show _≤_;omega
  have HREL:=Za hrel1;have HF1:=Za hF1;clear hrel hrel1 hz hW hM hF h ok ho hs hl hr hZ hq hil hnn hnf hF1
  by_cases l0:(ce cs i).l=0
  ·by_cases r0:(ce cs i).r=0
   ·skip
    rw [r0,show ((0:Nat):Int)=0 from rfl] at HAT;rw [r0] at R2 HREL s1 s2;rw [l0,show ((0:Nat):Int)=0 from rfl] at HAT;rw [l0] at R1 HREL s1 s2;have HWN:Hid (wrap64 (1+(n1:Int))=((n1+1:Nat):Int)):=by
     have h1:=R1.frlen;have h2:=hF2;show _=_;rw [Go.IntWalk.wrap64_in _ (by omega)];omega
    go_enter Tryz.func116,Tryz.ntmps116
    go_wp2_with (first
     |((with_reducible refine Zk 14 13 ?_);refine wpList_load_mid rfl _ _ rfl b (i * 39) rfl X _ HRG.out Tryz.underlying154 rfl HL.out ?_)
     |((with_reducible refine Zw 5 ?_);refine Zf _ rfl _ rfl _ HZ0.out ?_;intro w1 b5 hg5 hl5 B5 b1;have HB5:=Za B5;have Hg5:=Za hg5;have HB1:=Za b1;clear B5 hg5 hl5 b1)
     |((with_reducible refine Zah 5 ?_);refine Zg _ rfl _ _ _ rfl b5 _ X.toArray rfl rfl HB5.out HL2.out HL3.out (all_oneCell_toArray H1.out) ?_;intro w2 B6 g6;have e1:=B6.cell 37;have e2:=B6.cell 38;simp only [List.getElem?_toArray] at e1 e2;rw [HAT.out.2.2.2.2.2.1] at e1;rw [HAT.out.2.2.2.2.2.2] at e2;have HB2:=Za (Ze HB1.out g6 Hg5.out);have HR2:=Za (HR.out.grow HB2.out);have c22:=HR2.out.c2;have HX2:=Za B6;have HNB:Hid (b5 ∉ rsB g (.slice (some ⟨b,0,none⟩) nn c) (.slice fa nf fc) ss):=(fun e=>by have:=HR.out.lts _ e;have:=Hg5.out;omega);clear B6 g6 HB5)
     |((with_reducible refine Zle 27 ?_);refine Zar _ rfl _ _ rfl _ (by rw [List.map_toArray];exact HBZ.out) ?_)
     |((with_reducible refine Zah 28 ?_);refine Zea _ rfl _ _ _ rfl 154 39 nn c b (i * 39) (ss.flatMap sz7) Z rfl rfl (by have:=HR2.out.sps;rw [← HNN.out] at this;exact this) HLZ.out (by rw [HZL.out];have:=HIL.out;have:=HNN.out;omega) HZ1.out ?_;intro w3 l3 m3 s3;have HR3:=Za (HR2.out.putS i HIL.out zs7 Zhp (fun _=>rfl) ⟨[],Own.nil _ _⟩ (by rw [HZE.out];exact l3) m3);have hne5:b5 ∉ [b]:=(fun e=>HNB.out (Zt.2 (.inr (.inl (by simp at e;rw [e];rfl)))));have HX3:=Za (HX2.out.mod m3 hne5);have HM3:=Za m3;have c33:=HR3.out.c3;clear l3 m3 s3 hne5)
     |(at_builtin;have HR4:=Za (HR3.out.grow (Zh w3 (.cells #[.int .i64 q] 3)));refine Zbx _ rfl _ _ _ rfl 3 1 8 Tryz.underlying30 Zak (by omega) _ nf (nats fr) rfl (by have:=HR4.out.frs;rw [← HNF.out] at this;exact this) w3.heap.size [Value.int .i64 q] rfl (Blk.new _ _ _) rfl (by intro u hu;simp at hu;subst hu;rfl) (by have:=HFL.out;simp only [maxLen];omega) (by have:=HFL.out;omega) ?_;intro vf' w5 l5 g5 wh;obtain ⟨a5,c5,rfl⟩:=Zo l5;have HL5:=Za l5;have HG5:=Za g5;have HWH:=Za wh;have hb5:Blk w5 g 80 #[.bool true,.int .i64 (room:Int),.slice (some ⟨b,0,none⟩) nn c,.slice fa nf fc]:=HR4.out.blk.mod (S:=(Value.slice fa nf fc).ownBlock.toList) (Mod.of_grown g5 (fun k hk=>Option.mem_toList.2 hk)) (fun e=>Zq HR4.out.frs HR4.out.blk Zpa (Option.mem_toList.1 e));have c53:w5.cell? ⟨g,3,none⟩=some (.slice fa nf fc):=hb5.cell 3;have f53:=hb5.frozen 3;have HRQ:Hid (Rq w (rsB g (.slice (some ⟨b,0,none⟩) nn c) (.slice fa nf fc) ss) g room (ss.set i zs7) (fr++[i+1]) b5 X.toArray (w5.setCell ⟨g,3,none⟩ (.slice a5 (nf+1) c5))):=Zsc HR.out HB2.out HNB.out HX3.out HM3.out HR4.out HL5.out HG5.out HWH.out HNF.out HQ.out HFL.out;have e35:=HRQ.out.cell 35;have e36:=HRQ.out.cell 36;simp only [List.getElem?_toArray] at e35 e36;rw [HAT.out.2.2.2.1] at e35;rw [HAT.out.2.2.2.2.1] at e36;clear l5 g5 wh hb5))
    go_ret;cases R1
    cases R2
    have hn':n0=0:=hn;subst hn';refine ⟨rfl,ss.set i zs7,HREL.out,HRQ.out.out⟩
   ·skip
    obtain ⟨k',hk'⟩:∃k,(ce cs i).r=k+1:=⟨(ce cs i).r-1,by omega⟩;rw [hk',show ((k'+1:Nat):Int)=(k':Int)+1 from rfl] at HAT;rw [hk'] at R2 HREL s1 s2;have HSIDE:Hid (∀ss3,Rel7 cs1 ((k'+1)::rest) ((k'+1)::rest) ss3→∃m:Nat,(spAt ss3 k').sd=m+1∧(spAt ss3 k').kind≠0∧k'<ss3.length∧m<1073741824∧∀(wr:World) (vp vf:Value),Rs wr g vp vf room (ss3.set k' { spAt ss3 k' with sd:=m}) fr1→Kc 116 #[.pointer (some ⟨g,0,none⟩),.int .i64 ((k':Int)+1)] wr fun e w'=>e=.returned (.int .i64 (n2:Int))∧∃ss',Rel7 cs' rest rest ss'∧RT7 wr g (rsB g vp vf (ss3.set k' { spAt ss3 k' with sd:=m})) room ss' fr' w'):=fun ss3 h=>Yax (IH n2 (by omega)) s2.wf hM2 hF2 R2 ss3 h
    have hb1:n1+n2≤65536:=by
     have h1:=R1.frlen;have h2:=R2.frlen;have h3:=(R2.step2 rest s2.wf).noc;omega
    obtain ⟨N1,hN1⟩:∃N1,N1=n1+1:=⟨_,rfl⟩;obtain ⟨N2,hN2⟩:∃N2,N2=N1+n2:=⟨_,rfl⟩;have hn1:n1=0:=by
     have h1:=R1;rw [l0] at h1;cases h1
     rfl
    have hwn2:wrap64 (1+(n2:Int))=(N2:Int):=by
     rw [Go.IntWalk.wrap64_in _ (by omega)];omega
    have HN0:Hid (n0+1=N2):=by
     show _=_;omega
    clear hb1 hN1 hN2;rw [l0,show ((0:Nat):Int)=0 from rfl] at HAT;rw [l0] at R1 HREL s1 s2;cases R1
    obtain ⟨m,sd6,kd6,kl6,mm6,call6⟩:=HSIDE.out _ HREL.out;have SD6:=Za sd6;have KD6:=Za kd6;have KL6:=Za kl6;have MM6:=Za mm6;have CALL6:=Za call6;have LEN6:Hid ((ss.set i zs7).length=ss.length):=List.length_set ..;clear sd6 kd6 kl6 mm6 call6;go_enter Tryz.func116,Tryz.ntmps116
    go_wp2_with (first
     |((with_reducible refine Zk 14 13 ?_);refine wpList_load_mid rfl _ _ rfl b (i * 39) rfl X _ HRG.out Tryz.underlying154 rfl HL.out ?_)
     |((with_reducible refine Zw 5 ?_);refine Zf _ rfl _ rfl _ HZ0.out ?_;intro w1 b5 hg5 hl5 B5 b1;have HB5:=Za B5;have Hg5:=Za hg5;have HB1:=Za b1;clear B5 hg5 hl5 b1)
     |((with_reducible refine Zah 5 ?_);refine Zg _ rfl _ _ _ rfl b5 _ X.toArray rfl rfl HB5.out HL2.out HL3.out (all_oneCell_toArray H1.out) ?_;intro w2 B6 g6;have e1:=B6.cell 37;have e2:=B6.cell 38;simp only [List.getElem?_toArray] at e1 e2;rw [HAT.out.2.2.2.2.2.1] at e1;rw [HAT.out.2.2.2.2.2.2] at e2;have HB2:=Za (Ze HB1.out g6 Hg5.out);have HR2:=Za (HR.out.grow HB2.out);have c22:=HR2.out.c2;have HX2:=Za B6;have HNB:Hid (b5 ∉ rsB g (.slice (some ⟨b,0,none⟩) nn c) (.slice fa nf fc) ss):=(fun e=>by have:=HR.out.lts _ e;have:=Hg5.out;omega);clear B6 g6 HB5)
     |((with_reducible refine Zle 27 ?_);refine Zar _ rfl _ _ rfl _ (by rw [List.map_toArray];exact HBZ.out) ?_)
     |((with_reducible refine Zah 28 ?_);refine Zea _ rfl _ _ _ rfl 154 39 nn c b (i * 39) (ss.flatMap sz7) Z rfl rfl (by have:=HR2.out.sps;rw [← HNN.out] at this;exact this) HLZ.out (by rw [HZL.out];have:=HIL.out;have:=HNN.out;omega) HZ1.out ?_;intro w3 l3 m3 s3;have HR3:=Za (HR2.out.putS i HIL.out zs7 Zhp (fun _=>rfl) ⟨[],Own.nil _ _⟩ (by rw [HZE.out];exact l3) m3);have hne5:b5 ∉ [b]:=(fun e=>HNB.out (Zt.2 (.inr (.inl (by simp at e;rw [e];rfl)))));have HX3:=Za (HX2.out.mod m3 hne5);have HM3:=Za m3;have c33:=HR3.out.c3;clear l3 m3 s3 hne5)
     |(at_builtin;have HR4:=Za (HR3.out.grow (Zh w3 (.cells #[.int .i64 q] 3)));refine Zbx _ rfl _ _ _ rfl 3 1 8 Tryz.underlying30 Zak (by omega) _ nf (nats fr) rfl (by have:=HR4.out.frs;rw [← HNF.out] at this;exact this) w3.heap.size [Value.int .i64 q] rfl (Blk.new _ _ _) rfl (by intro u hu;simp at hu;subst hu;rfl) (by have:=HFL.out;simp only [maxLen];omega) (by have:=HFL.out;omega) ?_;intro vf' w5 l5 g5 wh;obtain ⟨a5,c5,rfl⟩:=Zo l5;have HL5:=Za l5;have HG5:=Za g5;have HWH:=Za wh;have hb5:Blk w5 g 80 #[.bool true,.int .i64 (room:Int),.slice (some ⟨b,0,none⟩) nn c,.slice fa nf fc]:=HR4.out.blk.mod (S:=(Value.slice fa nf fc).ownBlock.toList) (Mod.of_grown g5 (fun k hk=>Option.mem_toList.2 hk)) (fun e=>Zq HR4.out.frs HR4.out.blk Zpa (Option.mem_toList.1 e));have c53:w5.cell? ⟨g,3,none⟩=some (.slice fa nf fc):=hb5.cell 3;have f53:=hb5.frozen 3;have HRQ:Hid (Rq w (rsB g (.slice (some ⟨b,0,none⟩) nn c) (.slice fa nf fc) ss) g room (ss.set i zs7) (fr++[i+1]) b5 X.toArray (w5.setCell ⟨g,3,none⟩ (.slice a5 (nf+1) c5))):=Zsc HR.out HB2.out HNB.out HX3.out HM3.out HR4.out HL5.out HG5.out HWH.out HNF.out HQ.out HFL.out;have e35:=HRQ.out.cell 35;have e36:=HRQ.out.cell 36;simp only [List.getElem?_toArray] at e35 e36;rw [HAT.out.2.2.2.1] at e35;rw [HAT.out.2.2.2.2.1] at e36;clear l5 g5 wh hb5))
    generalize w5.setCell ⟨g,3,none⟩ (.slice a5 (nf+1) c5)=w6 at *;clear e35 e36 e1 e2 c22 c33 c53 f53;obtain ⟨vp6,vf6,q16,q26,q36,q46,q56⟩:=HRQ.out;obtain ⟨b6,c6,hv6,-,k26,k36,j06,j16,hw6⟩:=q16.num k' KL6.out;subst hv6;rw [SD6.out] at k26;have HQQ6:=Za (Rq.setSd q16 q26 q36 q46 q56 k' KD6.out m);have c26:=q16.c2;have f36:=k36 (k' * 39+38);have e56:=HRQ.out.cell 36;simp only [List.getElem?_toArray] at e56;rw [HAT.out.2.2.2.2.1] at e56;have hm6:wrap64 (m:Int)=(m:Int):=Go.IntWalk.wrap64_in _ (by have:=MM6.out;omega);have hv6:IntKind.i64.wrap (k':Int)=(k':Int):=(Go.IntWalk.i64_left _).trans hw6;have hu6:IntKind.i64.wrap (m:Int)=(m:Int):=(Go.IntWalk.i64_left _).trans hm6;have hkl6:k'<ss.length:=by have:=KL6.out;rwa [LEN6.out] at this
    have hkm6: ¬ss.length≤k':=Nat.not_le.2 hkl6;clear q16 q26 q36 q46 q56 k36;refine Zx (S:=fun w'=>w'.cell? ⟨g,2,none⟩=some (.slice (some ⟨b6,0,none⟩) (ss.set i zs7).length c6)∧w'.cell? ⟨b5,36,none⟩=some (.int .i64 ((k':Int)+1))∧w'.cell? ⟨b6,k' * 39+38,none⟩=some (.int .i64 ((m+1:Nat):Int))) 13 (by kernel_rfl) (⟨c26,e56,k26⟩) (fun hHeld=>?_);refine tlp 0 (.pointer (some ⟨g,0,none⟩)) hHeld ?_;simp only [zq];refine tlp 1 (.pointer (some ⟨g,0,none⟩)) hHeld ?_;simp only [zq];refine tlp 2 (.pointer (some ⟨g,2,none⟩)) hHeld ?_;simp only [zq];refine tlg 3 (.slice (some ⟨b6,0,none⟩) (ss.set i zs7).length c6) rfl (Or.inl ⟨by rfl,fun w hS=>by (have z1:=hS.1;go_simp)⟩) hHeld ?_;simp only [zq];refine tlp 4 (.pointer (some ⟨b5,36,none⟩)) hHeld ?_;simp only [zq];refine tlg 5 (.int .i64 ((k':Int)+1)) rfl (Or.inl ⟨by rfl,fun w hS=>by (have z1:=hS.2.1;go_simp)⟩) hHeld ?_;simp only [zq];refine tlg 6 (.int .i64 (k':Int)) rfl (Or.inl ⟨by rfl,fun w hS=>by (go_simp;skip)⟩) hHeld ?_;simp only [zq];refine tlp 7 (.pointer (some ⟨b6,k' * 39,none⟩)) hHeld ?_;simp only [zq];refine tlp 8 (.pointer (some ⟨b6,k' * 39+38,none⟩)) hHeld ?_;simp only [zq];refine tlg 9 (.int .i64 ((m+1:Nat):Int)) rfl (Or.inl ⟨by rfl,fun w hS=>by (have z1:=hS.2.2;go_simp)⟩) hHeld ?_;simp only [zq];refine tlp 10 (.int .i64 (m:Int)) hHeld ?_;simp only [zq];refine tlp 11 (.pointer (some ⟨b6,k' * 39,none⟩)) hHeld ?_;simp only [zq];refine tlp 12 (.pointer (some ⟨b6,k' * 39+38,none⟩)) hHeld ?_;simp only [zq];refine Zaf rfl (by kernel_rfl) (by kernel_rfl) (fun KQ hK=>?_);go_simp
    skip
    refine hK.out _ _ ?_;clear hK KQ;clear hHeld;generalize (w6.setCell ⟨b6,k' * 39+38,none⟩ (.int .i64 (m:Int))).drew=w7 at *;have e57:=HQQ6.out.cell 36;simp only [List.getElem?_toArray] at e57;rw [HAT.out.2.2.2.2.1] at e57;clear c26 e56 k26 f36
    go_wp2_with (go_at_call 116;refine (HQQ6.out.use (fun vp vf h=>CALL6.out _ vp vf h)).mono ?_;rintro e w8 ⟨rfl,ss3,rel3,rq3⟩;have REL3:=Za rel3;have RQ3:=Za rq3;clear rel3 rq3)
    go_ret;refine ⟨by rw [HN0.out,← hwn2];rfl,ss3,REL3.out,RQ3.out.out⟩
  ·by_cases r0:(ce cs i).r=0
   ·skip
    rw [r0,show ((0:Nat):Int)=0 from rfl] at HAT;rw [r0] at R2 HREL s1 s2;obtain ⟨k,hk⟩:∃k,(ce cs i).l=k+1:=⟨(ce cs i).l-1,by omega⟩;rw [hk,show ((k+1:Nat):Int)=(k:Int)+1 from rfl] at HAT;rw [hk] at R1 HREL s1 s2;obtain ⟨m,sd6,kd6,kl6,mm6,call6⟩:=Yax (IH n1 (by omega)) s1.wf hM1 HF1.out R1 _ HREL.out;have SD6:=Za sd6;have KD6:=Za kd6;have KL6:=Za kl6;have MM6:=Za mm6;have CALL6:=Za call6;have LEN6:Hid ((ss.set i zs7).length=ss.length):=List.length_set ..;clear sd6 kd6 kl6 mm6 call6;have HWN:Hid (wrap64 (1+(n1:Int))=((n1+1:Nat):Int)):=by
     have h1:=R1.frlen;have h2:=hF2;show _=_;rw [Go.IntWalk.wrap64_in _ (by omega)];omega
    go_enter Tryz.func116,Tryz.ntmps116
    go_wp2_with (first
     |((with_reducible refine Zk 14 13 ?_);refine wpList_load_mid rfl _ _ rfl b (i * 39) rfl X _ HRG.out Tryz.underlying154 rfl HL.out ?_)
     |((with_reducible refine Zw 5 ?_);refine Zf _ rfl _ rfl _ HZ0.out ?_;intro w1 b5 hg5 hl5 B5 b1;have HB5:=Za B5;have Hg5:=Za hg5;have HB1:=Za b1;clear B5 hg5 hl5 b1)
     |((with_reducible refine Zah 5 ?_);refine Zg _ rfl _ _ _ rfl b5 _ X.toArray rfl rfl HB5.out HL2.out HL3.out (all_oneCell_toArray H1.out) ?_;intro w2 B6 g6;have e1:=B6.cell 37;have e2:=B6.cell 38;simp only [List.getElem?_toArray] at e1 e2;rw [HAT.out.2.2.2.2.2.1] at e1;rw [HAT.out.2.2.2.2.2.2] at e2;have HB2:=Za (Ze HB1.out g6 Hg5.out);have HR2:=Za (HR.out.grow HB2.out);have c22:=HR2.out.c2;have HX2:=Za B6;have HNB:Hid (b5 ∉ rsB g (.slice (some ⟨b,0,none⟩) nn c) (.slice fa nf fc) ss):=(fun e=>by have:=HR.out.lts _ e;have:=Hg5.out;omega);clear B6 g6 HB5)
     |((with_reducible refine Zle 27 ?_);refine Zar _ rfl _ _ rfl _ (by rw [List.map_toArray];exact HBZ.out) ?_)
     |((with_reducible refine Zah 28 ?_);refine Zea _ rfl _ _ _ rfl 154 39 nn c b (i * 39) (ss.flatMap sz7) Z rfl rfl (by have:=HR2.out.sps;rw [← HNN.out] at this;exact this) HLZ.out (by rw [HZL.out];have:=HIL.out;have:=HNN.out;omega) HZ1.out ?_;intro w3 l3 m3 s3;have HR3:=Za (HR2.out.putS i HIL.out zs7 Zhp (fun _=>rfl) ⟨[],Own.nil _ _⟩ (by rw [HZE.out];exact l3) m3);have hne5:b5 ∉ [b]:=(fun e=>HNB.out (Zt.2 (.inr (.inl (by simp at e;rw [e];rfl)))));have HX3:=Za (HX2.out.mod m3 hne5);have HM3:=Za m3;have c33:=HR3.out.c3;clear l3 m3 s3 hne5)
     |(at_builtin;have HR4:=Za (HR3.out.grow (Zh w3 (.cells #[.int .i64 q] 3)));refine Zbx _ rfl _ _ _ rfl 3 1 8 Tryz.underlying30 Zak (by omega) _ nf (nats fr) rfl (by have:=HR4.out.frs;rw [← HNF.out] at this;exact this) w3.heap.size [Value.int .i64 q] rfl (Blk.new _ _ _) rfl (by intro u hu;simp at hu;subst hu;rfl) (by have:=HFL.out;simp only [maxLen];omega) (by have:=HFL.out;omega) ?_;intro vf' w5 l5 g5 wh;obtain ⟨a5,c5,rfl⟩:=Zo l5;have HL5:=Za l5;have HG5:=Za g5;have HWH:=Za wh;have hb5:Blk w5 g 80 #[.bool true,.int .i64 (room:Int),.slice (some ⟨b,0,none⟩) nn c,.slice fa nf fc]:=HR4.out.blk.mod (S:=(Value.slice fa nf fc).ownBlock.toList) (Mod.of_grown g5 (fun k hk=>Option.mem_toList.2 hk)) (fun e=>Zq HR4.out.frs HR4.out.blk Zpa (Option.mem_toList.1 e));have c53:w5.cell? ⟨g,3,none⟩=some (.slice fa nf fc):=hb5.cell 3;have f53:=hb5.frozen 3;have HRQ:Hid (Rq w (rsB g (.slice (some ⟨b,0,none⟩) nn c) (.slice fa nf fc) ss) g room (ss.set i zs7) (fr++[i+1]) b5 X.toArray (w5.setCell ⟨g,3,none⟩ (.slice a5 (nf+1) c5))):=Zsc HR.out HB2.out HNB.out HX3.out HM3.out HR4.out HL5.out HG5.out HWH.out HNF.out HQ.out HFL.out;have e35:=HRQ.out.cell 35;have e36:=HRQ.out.cell 36;simp only [List.getElem?_toArray] at e35 e36;rw [HAT.out.2.2.2.1] at e35;rw [HAT.out.2.2.2.2.1] at e36;clear l5 g5 wh hb5))
    generalize w5.setCell ⟨g,3,none⟩ (.slice a5 (nf+1) c5)=w6 at *;clear e35 e36 e1 e2 c22 c33 c53 f53;obtain ⟨vp6,vf6,q16,q26,q36,q46,q56⟩:=HRQ.out;obtain ⟨b6,c6,hv6,-,k26,k36,j06,j16,hw6⟩:=q16.num k KL6.out;subst hv6;rw [SD6.out] at k26;have HQQ6:=Za (Rq.setSd q16 q26 q36 q46 q56 k KD6.out m);have c26:=q16.c2;have f36:=k36 (k * 39+38);have e56:=HRQ.out.cell 35;simp only [List.getElem?_toArray] at e56;rw [HAT.out.2.2.2.1] at e56;have hm6:wrap64 (m:Int)=(m:Int):=Go.IntWalk.wrap64_in _ (by have:=MM6.out;omega);have hv6:IntKind.i64.wrap (k:Int)=(k:Int):=(Go.IntWalk.i64_left _).trans hw6;have hu6:IntKind.i64.wrap (m:Int)=(m:Int):=(Go.IntWalk.i64_left _).trans hm6;have hkl6:k<ss.length:=by have:=KL6.out;rwa [LEN6.out] at this
    have hkm6: ¬ss.length≤k:=Nat.not_le.2 hkl6;clear q16 q26 q36 q46 q56 k36;refine Zx (S:=fun w'=>w'.cell? ⟨g,2,none⟩=some (.slice (some ⟨b6,0,none⟩) (ss.set i zs7).length c6)∧w'.cell? ⟨b5,35,none⟩=some (.int .i64 ((k:Int)+1))∧w'.cell? ⟨b6,k * 39+38,none⟩=some (.int .i64 ((m+1:Nat):Int))) 13 (by kernel_rfl) (⟨c26,e56,k26⟩) (fun hHeld=>?_);refine tlp 0 (.pointer (some ⟨g,0,none⟩)) hHeld ?_;simp only [zq];refine tlp 1 (.pointer (some ⟨g,0,none⟩)) hHeld ?_;simp only [zq];refine tlp 2 (.pointer (some ⟨g,2,none⟩)) hHeld ?_;simp only [zq];refine tlg 3 (.slice (some ⟨b6,0,none⟩) (ss.set i zs7).length c6) rfl (Or.inl ⟨by rfl,fun w hS=>by (have z1:=hS.1;go_simp)⟩) hHeld ?_;simp only [zq];refine tlp 4 (.pointer (some ⟨b5,35,none⟩)) hHeld ?_;simp only [zq];refine tlg 5 (.int .i64 ((k:Int)+1)) rfl (Or.inl ⟨by rfl,fun w hS=>by (have z1:=hS.2.1;go_simp)⟩) hHeld ?_;simp only [zq];refine tlg 6 (.int .i64 (k:Int)) rfl (Or.inl ⟨by rfl,fun w hS=>by (go_simp;skip)⟩) hHeld ?_;simp only [zq];refine tlp 7 (.pointer (some ⟨b6,k * 39,none⟩)) hHeld ?_;simp only [zq];refine tlp 8 (.pointer (some ⟨b6,k * 39+38,none⟩)) hHeld ?_;simp only [zq];refine tlg 9 (.int .i64 ((m+1:Nat):Int)) rfl (Or.inl ⟨by rfl,fun w hS=>by (have z1:=hS.2.2;go_simp)⟩) hHeld ?_;simp only [zq];refine tlp 10 (.int .i64 (m:Int)) hHeld ?_;simp only [zq];refine tlp 11 (.pointer (some ⟨b6,k * 39,none⟩)) hHeld ?_;simp only [zq];refine tlp 12 (.pointer (some ⟨b6,k * 39+38,none⟩)) hHeld ?_;simp only [zq];refine Zaf rfl (by kernel_rfl) (by kernel_rfl) (fun KQ hK=>?_);go_simp
    skip
    refine hK.out _ _ ?_;clear hK KQ;clear hHeld;generalize (w6.setCell ⟨b6,k * 39+38,none⟩ (.int .i64 (m:Int))).drew=w7 at *;have e57:=HQQ6.out.cell 35;simp only [List.getElem?_toArray] at e57;rw [HAT.out.2.2.2.1] at e57;clear c26 e56 k26 f36
    go_wp2_with (go_at_call 116;refine (HQQ6.out.use (fun vp vf h=>CALL6.out _ vp vf h)).mono ?_;rintro e w8 ⟨rfl,ss3,rel3,rq3⟩;have REL3:=Za rel3;have e58:=rq3.cell 36;simp only [List.getElem?_toArray] at e58;rw [HAT.out.2.2.2.2.1] at e58;have RQ3:=Za rq3;clear rel3 rq3)
    go_ret;cases R2
    have hn':n0=n1:=hn;subst hn';refine ⟨by rw [HWN.out];rfl,ss3,REL3.out,RQ3.out.out⟩
   ·skip
    obtain ⟨k',hk'⟩:∃k,(ce cs i).r=k+1:=⟨(ce cs i).r-1,by omega⟩;rw [hk',show ((k'+1:Nat):Int)=(k':Int)+1 from rfl] at HAT;rw [hk'] at R2 HREL s1 s2;have HSIDE:Hid (∀ss3,Rel7 cs1 ((k'+1)::rest) ((k'+1)::rest) ss3→∃m:Nat,(spAt ss3 k').sd=m+1∧(spAt ss3 k').kind≠0∧k'<ss3.length∧m<1073741824∧∀(wr:World) (vp vf:Value),Rs wr g vp vf room (ss3.set k' { spAt ss3 k' with sd:=m}) fr1→Kc 116 #[.pointer (some ⟨g,0,none⟩),.int .i64 ((k':Int)+1)] wr fun e w'=>e=.returned (.int .i64 (n2:Int))∧∃ss',Rel7 cs' rest rest ss'∧RT7 wr g (rsB g vp vf (ss3.set k' { spAt ss3 k' with sd:=m})) room ss' fr' w'):=fun ss3 h=>Yax (IH n2 (by omega)) s2.wf hM2 hF2 R2 ss3 h
    have hb1:n1+n2≤65536:=by
     have h1:=R1.frlen;have h2:=R2.frlen;have h3:=(R2.step2 rest s2.wf).noc;omega
    obtain ⟨N1,hN1⟩:∃N1,N1=n1+1:=⟨_,rfl⟩;obtain ⟨N2,hN2⟩:∃N2,N2=N1+n2:=⟨_,rfl⟩;have hwn1:wrap64 (1+(n1:Int))=(N1:Int):=by
     rw [Go.IntWalk.wrap64_in _ (by omega)];omega
    have hwn2:wrap64 ((N1:Int)+(n2:Int))=(N2:Int):=by
     rw [Go.IntWalk.wrap64_in _ (by omega)];omega
    have HN0:Hid (n0+1=N2):=by
     show _=_;omega
    clear hb1 hN1 hN2;obtain ⟨k,hk⟩:∃k,(ce cs i).l=k+1:=⟨(ce cs i).l-1,by omega⟩;rw [hk,show ((k+1:Nat):Int)=(k:Int)+1 from rfl] at HAT;rw [hk] at R1 HREL s1 s2;obtain ⟨m,sd6,kd6,kl6,mm6,call6⟩:=Yax (IH n1 (by omega)) s1.wf hM1 HF1.out R1 _ HREL.out;have SD6:=Za sd6;have KD6:=Za kd6;have KL6:=Za kl6;have MM6:=Za mm6;have CALL6:=Za call6;have LEN6:Hid ((ss.set i zs7).length=ss.length):=List.length_set ..;clear sd6 kd6 kl6 mm6 call6;go_enter Tryz.func116,Tryz.ntmps116
    go_wp2_with (first
     |((with_reducible refine Zk 14 13 ?_);refine wpList_load_mid rfl _ _ rfl b (i * 39) rfl X _ HRG.out Tryz.underlying154 rfl HL.out ?_)
     |((with_reducible refine Zw 5 ?_);refine Zf _ rfl _ rfl _ HZ0.out ?_;intro w1 b5 hg5 hl5 B5 b1;have HB5:=Za B5;have Hg5:=Za hg5;have HB1:=Za b1;clear B5 hg5 hl5 b1)
     |((with_reducible refine Zah 5 ?_);refine Zg _ rfl _ _ _ rfl b5 _ X.toArray rfl rfl HB5.out HL2.out HL3.out (all_oneCell_toArray H1.out) ?_;intro w2 B6 g6;have e1:=B6.cell 37;have e2:=B6.cell 38;simp only [List.getElem?_toArray] at e1 e2;rw [HAT.out.2.2.2.2.2.1] at e1;rw [HAT.out.2.2.2.2.2.2] at e2;have HB2:=Za (Ze HB1.out g6 Hg5.out);have HR2:=Za (HR.out.grow HB2.out);have c22:=HR2.out.c2;have HX2:=Za B6;have HNB:Hid (b5 ∉ rsB g (.slice (some ⟨b,0,none⟩) nn c) (.slice fa nf fc) ss):=(fun e=>by have:=HR.out.lts _ e;have:=Hg5.out;omega);clear B6 g6 HB5)
     |((with_reducible refine Zle 27 ?_);refine Zar _ rfl _ _ rfl _ (by rw [List.map_toArray];exact HBZ.out) ?_)
     |((with_reducible refine Zah 28 ?_);refine Zea _ rfl _ _ _ rfl 154 39 nn c b (i * 39) (ss.flatMap sz7) Z rfl rfl (by have:=HR2.out.sps;rw [← HNN.out] at this;exact this) HLZ.out (by rw [HZL.out];have:=HIL.out;have:=HNN.out;omega) HZ1.out ?_;intro w3 l3 m3 s3;have HR3:=Za (HR2.out.putS i HIL.out zs7 Zhp (fun _=>rfl) ⟨[],Own.nil _ _⟩ (by rw [HZE.out];exact l3) m3);have hne5:b5 ∉ [b]:=(fun e=>HNB.out (Zt.2 (.inr (.inl (by simp at e;rw [e];rfl)))));have HX3:=Za (HX2.out.mod m3 hne5);have HM3:=Za m3;have c33:=HR3.out.c3;clear l3 m3 s3 hne5)
     |(at_builtin;have HR4:=Za (HR3.out.grow (Zh w3 (.cells #[.int .i64 q] 3)));refine Zbx _ rfl _ _ _ rfl 3 1 8 Tryz.underlying30 Zak (by omega) _ nf (nats fr) rfl (by have:=HR4.out.frs;rw [← HNF.out] at this;exact this) w3.heap.size [Value.int .i64 q] rfl (Blk.new _ _ _) rfl (by intro u hu;simp at hu;subst hu;rfl) (by have:=HFL.out;simp only [maxLen];omega) (by have:=HFL.out;omega) ?_;intro vf' w5 l5 g5 wh;obtain ⟨a5,c5,rfl⟩:=Zo l5;have HL5:=Za l5;have HG5:=Za g5;have HWH:=Za wh;have hb5:Blk w5 g 80 #[.bool true,.int .i64 (room:Int),.slice (some ⟨b,0,none⟩) nn c,.slice fa nf fc]:=HR4.out.blk.mod (S:=(Value.slice fa nf fc).ownBlock.toList) (Mod.of_grown g5 (fun k hk=>Option.mem_toList.2 hk)) (fun e=>Zq HR4.out.frs HR4.out.blk Zpa (Option.mem_toList.1 e));have c53:w5.cell? ⟨g,3,none⟩=some (.slice fa nf fc):=hb5.cell 3;have f53:=hb5.frozen 3;have HRQ:Hid (Rq w (rsB g (.slice (some ⟨b,0,none⟩) nn c) (.slice fa nf fc) ss) g room (ss.set i zs7) (fr++[i+1]) b5 X.toArray (w5.setCell ⟨g,3,none⟩ (.slice a5 (nf+1) c5))):=Zsc HR.out HB2.out HNB.out HX3.out HM3.out HR4.out HL5.out HG5.out HWH.out HNF.out HQ.out HFL.out;have e35:=HRQ.out.cell 35;have e36:=HRQ.out.cell 36;simp only [List.getElem?_toArray] at e35 e36;rw [HAT.out.2.2.2.1] at e35;rw [HAT.out.2.2.2.2.1] at e36;clear l5 g5 wh hb5))
    generalize w5.setCell ⟨g,3,none⟩ (.slice a5 (nf+1) c5)=w6 at *;clear e35 e36 e1 e2 c22 c33 c53 f53;obtain ⟨vp6,vf6,q16,q26,q36,q46,q56⟩:=HRQ.out;obtain ⟨b6,c6,hv6,-,k26,k36,j06,j16,hw6⟩:=q16.num k KL6.out;subst hv6;rw [SD6.out] at k26;have HQQ6:=Za (Rq.setSd q16 q26 q36 q46 q56 k KD6.out m);have c26:=q16.c2;have f36:=k36 (k * 39+38);have e56:=HRQ.out.cell 35;simp only [List.getElem?_toArray] at e56;rw [HAT.out.2.2.2.1] at e56;have hm6:wrap64 (m:Int)=(m:Int):=Go.IntWalk.wrap64_in _ (by have:=MM6.out;omega);have hv6:IntKind.i64.wrap (k:Int)=(k:Int):=(Go.IntWalk.i64_left _).trans hw6;have hu6:IntKind.i64.wrap (m:Int)=(m:Int):=(Go.IntWalk.i64_left _).trans hm6;have hkl6:k<ss.length:=by have:=KL6.out;rwa [LEN6.out] at this
    have hkm6: ¬ss.length≤k:=Nat.not_le.2 hkl6;clear q16 q26 q36 q46 q56 k36;refine Zx (S:=fun w'=>w'.cell? ⟨g,2,none⟩=some (.slice (some ⟨b6,0,none⟩) (ss.set i zs7).length c6)∧w'.cell? ⟨b5,35,none⟩=some (.int .i64 ((k:Int)+1))∧w'.cell? ⟨b6,k * 39+38,none⟩=some (.int .i64 ((m+1:Nat):Int))) 13 (by kernel_rfl) (⟨c26,e56,k26⟩) (fun hHeld=>?_);refine tlp 0 (.pointer (some ⟨g,0,none⟩)) hHeld ?_;simp only [zq];refine tlp 1 (.pointer (some ⟨g,0,none⟩)) hHeld ?_;simp only [zq];refine tlp 2 (.pointer (some ⟨g,2,none⟩)) hHeld ?_;simp only [zq];refine tlg 3 (.slice (some ⟨b6,0,none⟩) (ss.set i zs7).length c6) rfl (Or.inl ⟨by rfl,fun w hS=>by (have z1:=hS.1;go_simp)⟩) hHeld ?_;simp only [zq];refine tlp 4 (.pointer (some ⟨b5,35,none⟩)) hHeld ?_;simp only [zq];refine tlg 5 (.int .i64 ((k:Int)+1)) rfl (Or.inl ⟨by rfl,fun w hS=>by (have z1:=hS.2.1;go_simp)⟩) hHeld ?_;simp only [zq];refine tlg 6 (.int .i64 (k:Int)) rfl (Or.inl ⟨by rfl,fun w hS=>by (go_simp;skip)⟩) hHeld ?_;simp only [zq];refine tlp 7 (.pointer (some ⟨b6,k * 39,none⟩)) hHeld ?_;simp only [zq];refine tlp 8 (.pointer (some ⟨b6,k * 39+38,none⟩)) hHeld ?_;simp only [zq];refine tlg 9 (.int .i64 ((m+1:Nat):Int)) rfl (Or.inl ⟨by rfl,fun w hS=>by (have z1:=hS.2.2;go_simp)⟩) hHeld ?_;simp only [zq];refine tlp 10 (.int .i64 (m:Int)) hHeld ?_;simp only [zq];refine tlp 11 (.pointer (some ⟨b6,k * 39,none⟩)) hHeld ?_;simp only [zq];refine tlp 12 (.pointer (some ⟨b6,k * 39+38,none⟩)) hHeld ?_;simp only [zq];refine Zaf rfl (by kernel_rfl) (by kernel_rfl) (fun KQ hK=>?_);go_simp
    skip
    refine hK.out _ _ ?_;clear hK KQ;clear hHeld;generalize (w6.setCell ⟨b6,k * 39+38,none⟩ (.int .i64 (m:Int))).drew=w7 at *;have e57:=HQQ6.out.cell 35;simp only [List.getElem?_toArray] at e57;rw [HAT.out.2.2.2.1] at e57;clear c26 e56 k26 f36
    go_wp2_with (go_at_call 116;refine (HQQ6.out.use (fun vp vf h=>CALL6.out _ vp vf h)).mono ?_;rintro e w8 ⟨rfl,ss3,rel3,rq3⟩;have REL3:=Za rel3;have e58:=rq3.cell 36;simp only [List.getElem?_toArray] at e58;rw [HAT.out.2.2.2.2.1] at e58;have RQ3:=Za rq3;clear rel3 rq3)
    obtain ⟨m',sd9,kd9,kl9,mm9,call9⟩:=HSIDE.out ss3 REL3.out;have SD9:=Za sd9;have KD9:=Za kd9;have KL9:=Za kl9;have MM9:=Za mm9;have CALL9:=Za call9;have LEN9:Hid (ss3.length=ss3.length):=rfl;clear sd9 kd9 kl9 mm9 call9 e58;obtain ⟨vp9,vf9,q19,q29,q39,q49,q59⟩:=RQ3.out;obtain ⟨b9,c9,hv9,-,k29,k39,j09,j19,hw9⟩:=q19.num k' KL9.out;subst hv9;rw [SD9.out] at k29;have HQQ9:=Za (Rq.setSd q19 q29 q39 q49 q59 k' KD9.out m');have c29:=q19.c2;have f39:=k39 (k' * 39+38);have e59:=RQ3.out.cell 36;simp only [List.getElem?_toArray] at e59;rw [HAT.out.2.2.2.2.1] at e59;have hm9:wrap64 (m':Int)=(m':Int):=Go.IntWalk.wrap64_in _ (by have:=MM9.out;omega);have hv9:IntKind.i64.wrap (k':Int)=(k':Int):=(Go.IntWalk.i64_left _).trans hw9;have hu9:IntKind.i64.wrap (m':Int)=(m':Int):=(Go.IntWalk.i64_left _).trans hm9;have hkl9:k'<ss3.length:=by have:=KL9.out;rwa [LEN9.out] at this
    have hkm9: ¬ss3.length≤k':=Nat.not_le.2 hkl9;clear q19 q29 q39 q49 q59 k39;refine Zx (S:=fun w'=>w'.cell? ⟨g,2,none⟩=some (.slice (some ⟨b9,0,none⟩) ss3.length c9)∧w'.cell? ⟨b5,36,none⟩=some (.int .i64 ((k':Int)+1))∧w'.cell? ⟨b9,k' * 39+38,none⟩=some (.int .i64 ((m'+1:Nat):Int))) 13 (by kernel_rfl) (⟨c29,e59,k29⟩) (fun hHeld=>?_);refine tlp 0 (.pointer (some ⟨g,0,none⟩)) hHeld ?_;simp only [zq];refine tlp 1 (.pointer (some ⟨g,0,none⟩)) hHeld ?_;simp only [zq];refine tlp 2 (.pointer (some ⟨g,2,none⟩)) hHeld ?_;simp only [zq];refine tlg 3 (.slice (some ⟨b9,0,none⟩) ss3.length c9) rfl (Or.inl ⟨by rfl,fun w hS=>by (have z1:=hS.1;go_simp)⟩) hHeld ?_;simp only [zq];refine tlp 4 (.pointer (some ⟨b5,36,none⟩)) hHeld ?_;simp only [zq];refine tlg 5 (.int .i64 ((k':Int)+1)) rfl (Or.inl ⟨by rfl,fun w hS=>by (have z1:=hS.2.1;go_simp)⟩) hHeld ?_;simp only [zq];refine tlg 6 (.int .i64 (k':Int)) rfl (Or.inl ⟨by rfl,fun w hS=>by (go_simp;skip)⟩) hHeld ?_;simp only [zq];refine tlp 7 (.pointer (some ⟨b9,k' * 39,none⟩)) hHeld ?_;simp only [zq];refine tlp 8 (.pointer (some ⟨b9,k' * 39+38,none⟩)) hHeld ?_;simp only [zq];refine tlg 9 (.int .i64 ((m'+1:Nat):Int)) rfl (Or.inl ⟨by rfl,fun w hS=>by (have z1:=hS.2.2;go_simp)⟩) hHeld ?_;simp only [zq];refine tlp 10 (.int .i64 (m':Int)) hHeld ?_;simp only [zq];refine tlp 11 (.pointer (some ⟨b9,k' * 39,none⟩)) hHeld ?_;simp only [zq];refine tlp 12 (.pointer (some ⟨b9,k' * 39+38,none⟩)) hHeld ?_;simp only [zq];refine Zaf rfl (by kernel_rfl) (by kernel_rfl) (fun KQ hK=>?_);go_simp
    skip
    refine hK.out _ _ ?_;clear hK KQ;clear hHeld;generalize (w8.setCell ⟨b9,k' * 39+38,none⟩ (.int .i64 (m':Int))).drew=w9 at *;have e60:=HQQ9.out.cell 36;simp only [List.getElem?_toArray] at e60;rw [HAT.out.2.2.2.2.1] at e60;clear e59 c29 k29 f39
    go_wp2_with (go_at_call 116;refine (HQQ9.out.use (fun vp vf h=>CALL9.out _ vp vf h)).mono ?_;rintro e w10 ⟨rfl,ss5,rel5,rq5⟩;have REL5:=Za rel5;have RQ5:=Za rq5;clear rel5 rq5)
    go_ret;refine ⟨by rw [HN0.out,← hwn2];rfl,ss5,REL5.out,RQ5.out.out⟩
theorem Ztr (g room:Nat):∀n,FreeC g room n:=fun n=>Nat.strongRecOn n (fun N IH=>Zpn g room N IH)
theorem Zps (h:Rs w g vp vf room ss fr) (q:Int) (ho:(sat ss q).own=0):Kc 58 #[.pointer (some ⟨g,0,none⟩),.int .i64 q] w fun e w'=>e=.returned (.tuple #[.int .i64 0,.int .i64 7])∧Kb w w':=by
 have c0:=h.c0;have HH:=Za (Zbn h q);have HA:=Za (Zbc h q);have hf:=Zog (Zcf h q);rw [ho] at hf
 by_cases hk:(sat ss q).kind=0
 ·rw [show decide ((sat ss q).kind≠0)=false by simp [hk]] at HH;clear h hk ho hf HA;go_enter Tryz.func58,Tryz.ntmps58
  go_wp2_with (first
   |(go_at_call 83;refine (Zab g _ c0).mono ?_;rintro e w' ⟨rfl,hx⟩;rw [hx];clear hx w')
   |(go_at_call 84;refine HH.out.mono ?_;rintro e w' ⟨rfl,hx⟩;rw [hx];clear hx w'))
  go_ret2;exact ⟨rfl,Below.refl _ _⟩
 ·rw [show decide ((sat ss q).kind≠0)=true by simp [hk]] at HH;generalize (sz7 (sat ss q)).toArray=X at HA hf;clear h hk ho;go_enter Tryz.func58,Tryz.ntmps58
  go_wp2_with (first
   |(go_at_call 83;refine (Zab g _ c0).mono ?_;rintro e w' ⟨rfl,hx⟩;rw [hx];clear hx w')
   |(go_at_call 84;refine HH.out.mono ?_;rintro e w' ⟨rfl,hx⟩;rw [hx];clear hx w')
   |(go_at_call 107;refine HA.out.mono ?_;rintro e w1 ⟨rfl,b1⟩;have HB1:=Za b1;clear b1))
  go_ret2;exact ⟨rfl,HB1.out⟩
theorem Zxc (h:Rs w g vp vf room ss fr) (hr:Rel7 cs [] [] ss) (hW:Wf cs []) (i:Nat) (ho:0<own cs [] i) (hM:∀j,cc cs j≤1073741824) (hF:fr.length+noc cs≤65536) (R:Run cs fr [i+1] cs' fr' n):Kc 58 #[.pointer (some ⟨g,0,none⟩),.int .i64 ((i:Int)+1)] w fun e w'=>e=.returned (.tuple #[.int .i64 (n:Int),.int .i64 0])∧∃ss',Rel7 cs' [] [] ss'∧RT7 w g (rsB g vp vf ss) room ss' fr' w':=by
 have c0:=h.c0;have hc:0<cc cs i:=by
  have:=hW.own i;omega
 have hil:i<ss.length:=by rw [hr.len];exact Zbu hc
 have hk:=(hr.inn hW i).2 hc;obtain ⟨p,hp,hr2⟩:=hr.hold hW ho hil;have hpb:p<1073741824:=by
  have h1:=hr.own i;have h2:=hW.own i;have h3:=hM i;omega
 have HH:=Za (Zbn h ((i:Int)+1));have HA:=Za (Zbc h ((i:Int)+1));rw [Zev] at HH HA;rw [show decide ((spAt ss i).kind≠0)=true by simp [hk]] at HH;have hf:=Zog (Zdb h i);rw [hp] at hf;generalize (sz7 (spAt ss i)).toArray=X at HA hf;have HS:Hid (∀w',Kb w w'→Rs w' g vp vf room ss fr):=fun w' hb=>h.grow hb
 have HFR:Hid (∀wr vp' vf',Rs wr g vp' vf' room (ss.set i { spAt ss i with own:=p}) fr→Kc 116 #[.pointer (some ⟨g,0,none⟩),.int .i64 ((i:Int)+1)] wr fun e w'=>e=.returned (.int .i64 (n:Int))∧∃ss',Rel7 cs' [] [] ss'∧RT7 wr g (rsB g vp' vf' (ss.set i { spAt ss i with own:=p})) room ss' fr' w'):=fun wr vp' vf' hR=>Ztr g room n cs cs' i [] _ fr fr' wr vp' vf' (hW.less i ho) hM hF hr2 hR R
 have HK:=Za hk;have HIL:=Za hil;have HP:=Za hp;obtain ⟨b,c,hvp,-⟩:=h.num i hil;subst hvp;obtain ⟨q,hq⟩:∃q:Int,q=(i:Int)+1:=⟨_,rfl⟩;rw [← hq] at HH HA HFR;rw [← hq];have h3:q-1=(i:Int):=by rw [hq];exact Int.add_sub_cancel _ _
 have hw2:wrap64 (p:Int)=(p:Int):=Go.IntWalk.wrap64_in _ (by omega);obtain ⟨nn,hnn⟩:∃nn,nn=ss.length:=⟨_,rfl⟩;have HNN:=Za hnn;rw [← hnn] at HS;rw [← hnn];have hin:i<nn:=by rw [hnn];exact hil
 have hpn: ¬((p:Int)+1=0):=by omega
 clear h hr hW ho hM hF R hc hil hk hp hr2 hpb hq hnn;go_enter Tryz.func58,Tryz.ntmps58
 go_wp2_with (first
  |(go_at_call 83;refine (Zab g _ c0).mono ?_;rintro e w' ⟨rfl,hx⟩;rw [hx];clear hx w')
  |(go_at_call 84;refine HH.out.mono ?_;rintro e w' ⟨rfl,hx⟩;rw [hx];clear hx w')
  |(go_at_call 107;refine HA.out.mono ?_;rintro e w1 ⟨rfl,b1⟩;have HR1:=Za (HS.out _ b1);have c2:=HR1.out.c2;obtain ⟨b9,c9,e9,k1,k2,k3,j0,j1,hw⟩:=HR1.out.num i HIL.out;rw [← HNN.out] at j1;injection e9 with e91 _ e93;injection e91 with e91;injection e91 with e91;subst e91;subst e93;rw [HP.out] at k1;have k4:=k3 (i * 39+37);have HB1:=Za b1;have HR2:=Za (HR1.out.setOwn i HK.out p);clear b1 k2 k3)
  |(go_at_call 116;refine (HFR.out _ _ _ HR2.out).mono ?_;rintro e w3 ⟨rfl,ss',rel',vp',vf',t1,t2,t3⟩))
 go_ret2;have hsub:=Zlt (g:=g) (vp:=.slice (some ⟨b,0,none⟩) nn c) (vf:=vf) (s':={ spAt ss i with own:=p}) HIL.out rfl;have m1:Mod (rsB g (.slice (some ⟨b,0,none⟩) nn c) vf ss) w (w1.setCell ⟨b,i * 39+37,none⟩ (.int .i64 (p:Int))):=(Mod.of_below HB1.out _).trans' (Mod.setCell _ _ _ _ (Zt.2 (.inr (.inl rfl))));exact ⟨rfl,ss',rel',vp',vf',t1,m1.trans (fun k hk=>.inl (hsub k hk)) t2,(show New _ w _ from fun k hk=>.inl (hsub k hk)).trans m1.size t3⟩
def Hs (w0:World) (S:List Nat) (w:World) (g gs room:Nat) (cs:Lz) (fr:List Nat):Prop:=STurn w0 g gs S room cs fr w∧Wf cs []
section
variable {w0 w:World} {S:List Nat} {g gs room:Nat} {cs:Lz} {fr:List Nat}
theorem Hs.here (s:Stm w g gs vp vf room cs fr) (W:Wf cs []):Hs w (stB g gs vp vf cs) w g gs room cs fr:=⟨STurn.refl (Below.refl _ _) s,W⟩
theorem Hs.mod (h:Hs w0 S w g gs room cs fr):Mod S w0 w:=by obtain ⟨⟨_,_,_,m,_⟩,_⟩:=h;exact m
theorem Hs.kq {P:World→Prop} (h:Hs w0 S w g gs room cs fr) (k:Kq S w0 P):P w:=k w h.mod
theorem Hs.grow (h:Hs w0 S w g gs room cs fr) (hb:Kb w w'):Hs w0 S w' g gs room cs fr:=by
 obtain ⟨t,W⟩:=h;exact ⟨t.trans fun vp vf s=>STurn.refl hb (s.grow hb),W⟩
theorem Hs.vw (h:Hs w0 S w g gs room cs fr):Vw w (.pointer (some ⟨g,0,none⟩)) true (cot cs) (cat cs):=by
 obtain ⟨⟨vp,vf,s,_,_⟩,W⟩:=h;exact Zkd s W
theorem Hs.inv (h:Hs w0 S w g gs room cs fr):Inv room (cs.map pl) fr:=by
 obtain ⟨⟨vp,vf,s,_,_⟩,W⟩:=h;exact s.sl.inv
theorem Hs.frok (h:Hs w0 S w g gs room cs fr):FrOk cs fr:=Zcw h.inv
theorem Hs.free (h:Hs w0 S w g gs room cs fr) (hn:noc cs<room): ¬Full room cs fr:=fun f=>by
 have:=h.inv.sum;rw [f.1,List.length_map] at this;have:=f.2;unfold noc at hn;simp at *;omega
theorem Hs.from (h:Hs w0 S w g gs room cs fr):∃S',Hs w S' w g gs room cs fr∧New S w0 S'∧(∀P:World→Prop,Kq S w0 P→Kq S' w P)∧(∀k∈S',k<w.heap.size)∧∀w' cs' fr',Hs w S' w' g gs room cs' fr'→Hs w0 S w' g gs room cs' fr':=by
 obtain ⟨⟨vp,vf,s,m,n⟩,W⟩:=h;refine ⟨stB g gs vp vf cs,Hs.here s W,n,fun P k=>k.turn m n,s.lts,fun w' cs' fr' k=>⟨?_,k.2⟩⟩;obtain ⟨vp',vf',s',m',n'⟩:=k.1;exact ⟨vp',vf',s',m.trans n m',n.trans m.size n'⟩
theorem Zqc (h:Hs w0 S w g gs room cs fr) (i:Nat) (hc:0<cc cs i) (hm:cc cs i<1073741824):Kc 108 #[.pointer (some ⟨g,0,none⟩),.int .i64 ((i:Int)+1)] w fun e w'=>e=.returned (.int .i64 0)∧Hs w0 S w' g gs room (moreC cs i) fr:=by
 obtain ⟨t,W⟩:=h;obtain ⟨vp,vf,s,m,n⟩:=t;refine (Ycp s i hc hm).mono ?_;rintro e w' ⟨rfl,t'⟩;obtain ⟨vp',vf',s',m',n'⟩:=t';exact ⟨rfl,⟨vp',vf',s',m.trans n m',n.trans m.size n'⟩,W.more i hc⟩
theorem Zfv (h:Hs w0 S w g gs room cs fr) (q:Int) (hc:cot cs q=0):Kc 108 #[.pointer (some ⟨g,0,none⟩),.int .i64 q] w fun e w'=>e=.returned (.int .i64 7)∧Hs w0 S w' g gs room cs fr:=by
 have hh:=h;obtain ⟨⟨vp,vf,s,m,n⟩,W⟩:=h;exact (Zyi s q hc).mono fun e w' ⟨e1,b⟩=>⟨e1,b ▸ hh⟩
theorem Ygt (h:Hs w0 S w g gs room cs fr) (K:Lq) (v:Value) (bs:Lq) (hr:Reads w v bs) (hK:Key K) (hL:Laid w) (hl:bs.length≤1024) (hf: ¬Full room cs fr):Kc 126 #[.pointer (some ⟨g,0,none⟩),.agg (B K),v] w fun e w'=>∃v',e=.returned (.tuple #[.int .i64 (tkH cs fr:Int),.int .i64 0])∧CeOk (lfC (lfD K (vaD bs)) K v' bs)∧Hs w0 S w' g gs room (tkC cs fr (1,lfC (lfD K (vaD bs)) K v' bs)) fr.dropLast:=by
 obtain ⟨⟨vp,vf,s,m,n⟩,W⟩:=h;have hbs:Bytes bs:=by obtain ⟨_,_,_,_,_,hb,_⟩:=hr;exact hb
 refine (Ycf s K v bs hr hK hL hl hf).mono ?_;rintro e w' ⟨v',rfl,ok,t⟩;have tk:=(Zgc (Zcw s.sl.inv) (1,lfC (lfD K (vaD bs)) K v' bs)).2;obtain ⟨vp',vf',s',m',n'⟩:=t;exact ⟨v',rfl,ok,⟨vp',vf',s',m.trans n m',n.trans m.size n'⟩,W.leaf tk (Zqa K v' bs hbs hl) ok rfl⟩
theorem Zry (h:Hs w0 S w g gs room cs fr) (d l r:Nat) (hd:d<256) (hml:mayP cs (l:Int)) (hmr:mayP cs (r:Int)) (u:Bool) (hu:u=true↔Und (sdC cs l).key (sdC cs r).key (d:Int)) (hf:fitP d (sdC cs l) (sdC cs r) u=true) (hL:Laid w) (hfu: ¬Full room cs fr):Kc 110 #[.pointer (some ⟨g,0,none⟩),.int .i64 (d:Int),.int .i64 (l:Int),.int .i64 (r:Int)] w fun e w'=>∃cs',InnR cs fr d l r cs'∧e=.returned (.tuple #[.int .i64 (tkH cs fr:Int),.int .i64 0])∧Hs w0 S w' g gs room cs' fr.dropLast:=by
 obtain ⟨⟨vp,vf,s,m,n⟩,W⟩:=h;refine (Zyc s W d l r hd hml hmr u hu hf hL hfu).mono ?_;rintro e w' ⟨K,hK,rfl,t⟩;have tk:=(Zgc (Zcw s.sl.inv) (1,inC (inD (sdD cs l) (sdD cs r)) K ((sdC cs l).sz+(sdC cs r).sz) d l r)).2;obtain ⟨vp',vf',s',m',n'⟩:=t;exact ⟨_,⟨K,hK,rfl⟩,rfl,⟨vp',vf',s',m.trans n m',n.trans m.size n'⟩,W.inner tk (Zye W hd hml hmr hu hf hK) ⟨Zp _,Zam _,hK.1,none,0,rfl⟩ rfl hml.own hmr.own⟩
theorem Zqd (h:Hs w0 S w g gs room cs fr) (i:Nat) (ho:0<own cs [] i):Kc 55 #[.pointer (some ⟨g,0,none⟩),.int .i64 ((i+1:Nat):Int)] w fun e w'=>∃cs' fr' n,Run cs fr [i+1] cs' fr' n∧Step cs [i+1] cs' [] n∧e=.returned (.tuple #[.int .i64 (n:Int),.int .i64 0])∧Hs w0 S w' g gs room cs' fr':=by
 obtain ⟨⟨vp,vf,s,m,n⟩,W⟩:=h;refine (Ydd s W i ho).mono ?_;rintro e w' ⟨cs',fr',k,hr,rfl,t⟩;have st:=hr.step (W.less i ho);obtain ⟨vp',vf',s',m',n'⟩:=t;exact ⟨cs',fr',k,hr,st,rfl,⟨vp',vf',s',m.trans n m',n.trans m.size n'⟩,st.wf⟩
theorem Zhw (h:Hs w0 S w g gs room cs fr) (q:Int) (hm:cot cs q≤(cat cs q).ab):Kc 55 #[.pointer (some ⟨g,0,none⟩),.int .i64 q] w fun e w'=>e=.returned (.tuple #[.int .i64 0,.int .i64 7])∧Hs w0 S w' g gs room cs fr:=by
 have hh:=h;obtain ⟨⟨vp,vf,s,m,n⟩,W⟩:=h;exact (Zuk s W q hm).mono fun e w' ⟨e1,b⟩=>⟨e1,hh.grow b⟩
theorem Yjl (h:Hs w0 S w g gs room cs fr):Kc 31 #[.pointer (some ⟨g,0,none⟩)] w fun e w'=>e=.returned (.int .i64 (noc cs:Int))∧Kb w w':=by
 obtain ⟨⟨vp,vf,s,m,n⟩,W⟩:=h;exact Zxo s
theorem Ygs (h:Hs w0 S w g gs room cs fr):Kc 38 #[.pointer (some ⟨g,0,none⟩)] w fun e w'=>e=.returned (.int .i64 (room:Int))∧Kb w w':=by
 obtain ⟨⟨vp,vf,s,m,n⟩,W⟩:=h;exact Zrg s
end
end Go.Proofs.YtgfdgjkbcdmboaaGreatDoor
