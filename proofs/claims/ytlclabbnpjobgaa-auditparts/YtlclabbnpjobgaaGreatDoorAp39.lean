/- The document's store: fits, where it answers no ahead of its loop. -/
import Derived.Test.YtlclabbnpjobgaaGreatDoorAp38
namespace Go.Proofs.YtlclabbnpjobgaaGreatDoor
variable {A C es:List Ent}
variable {S fr fr' st:List Nat}
variable {b b5 c d g i n room:Nat}
variable {cs cs':Lz}
variable {ss:List Sp}
variable {vf vp:Value}
variable {w w2 w3 wr:World}
set_option maxHeartbeats 100000000
set_option maxRecDepth 20000
open Go.RowKit
theorem Zcd {l r kl kr:Int} {X Y Z:List Value} {dl dr:Int} {n1 n2:Nat} {b:Bool} {dpl dpr:Nat} (F:FitH w g d l r X Y Z kl kr dl dr A C es n1 n2 b dpl dpr) (hd:d<256) (hb:b=false) (hk:(kl=0∧kr=0∧(l == 0)=true∧(r == 0)=true)∨(kl=0∧kr=1∧(l == 0)=true∧(r == 0)=false)∨(kl=1∧kr=0∧(l == 0)=false∧(r == 0)=true)∨(kl=2∧kr=0∧(l == 0)=false∧(r == 0)=true∧(dl == (d:Int)+1)=false)∨(kl=2∧kr=1∧(l == 0)=false∧(r == 0)=false∧(dl == (d:Int)+1)=false)∨(kl=2∧kr=2∧(l == 0)=false∧(r == 0)=false∧(dl == (d:Int)+1)=false)∨(kl=0∧kr=2∧(l == 0)=true∧(r == 0)=false∧(dr == (d:Int)+1)=false)∨(kl=1∧kr=2∧(l == 0)=false∧(r == 0)=false∧(dr == (d:Int)+1)=false)∨(kl=2∧kr=2∧(l == 0)=false∧(r == 0)=false∧dl=(d:Int)+1∧(dr == (d:Int)+1)=false)):Kc 196 #[.pointer (some ⟨g,0,none⟩),.int .i64 (d:Int),.int .i64 l,.int .i64 r] w fun e w'=>e=.returned (.bool b)∧Kb w w':=by
 have HAl:=Za F.HAl;have HAr:=Za F.HAr;have HLX:=Za F.HLX;have HLY:=Za F.HLY;have HZ:=Za F.HZ;have HZX:=Za F.HZX;have HZY:=Za F.HZY;have H1X:=Za F.H1X;have H1Y:=Za F.H1Y;have HX0:=Za F.HX0;have HX1:=Za F.HX1;have HY0:=Za F.HY0;have HY1:=Za F.HY1;have hdl:=F.hdl;have hdr:=F.hdr;clear F;subst hb;rcases hk with ⟨rfl,rfl,ql,qr⟩ | ⟨rfl,rfl,ql,qr⟩ | ⟨rfl,rfl,ql,qr⟩ | ⟨rfl,rfl,ql,qr,xl2⟩ | ⟨rfl,rfl,ql,qr,xl2⟩ | ⟨rfl,rfl,ql,qr,xl2⟩ | ⟨rfl,rfl,ql,qr,xr2⟩ | ⟨rfl,rfl,ql,qr,xr2⟩ | ⟨rfl,rfl,ql,qr,rfl,xr2⟩
 all_goals
  try have xl: ¬dl=(d:Int)+1:=by simpa using xl2
  try have xr: ¬dr=(d:Int)+1:=by simpa using xr2
  go_enter Tryz.func196,Tryz.ntmps196
  go_wp2_with (first
      |(go_at_call 94;first | (refine (HAr.out _ Hb1.out).mono ?_;rintro e w2 ⟨rfl,b2⟩;have Hb2:=Za (Zb Hb1.out b2);clear b2) | (refine (HAl.out _ (Below.refl _ _)).mono ?_;rintro e w1 ⟨rfl,b1⟩;have Hb1:=Za b1;clear b1))
      |((with_reducible refine Zv 9 ?_);refine Zh _ rfl _ rfl _ HZ.out ?_;intro w3 b9 hg9 hl9 B9 b3;have HB9:=Za B9;have Hb3:=Za (Zb Hb2.out b3);have Hg9:Hid (w.heap.size≤b9):=Nat.le_trans Hb2.out.size hg9;clear B9 hg9 hl9 b3)
      |((with_reducible refine Zv 10 ?_);refine Zh _ rfl _ rfl _ HZ.out ?_;intro w4 b10 hg10 hl10 B10 b4;have HB9a:=Za (HB9.out.grow b4);have HB10:=Za B10;have Hb4:=Za (Zb Hb3.out b4);have hne:b9≠b10:=(by have:=HB9.out.lt;omega);have Hg10:Hid (w.heap.size≤b10):=Nat.le_trans Hb3.out.size hg10;clear B10 hg10 hl10 b4)
      |((with_reducible refine Zag 9 ?_);refine Zf _ rfl _ _ _ rfl b9 _ X.toArray rfl rfl HB9a.out HLX.out HZX.out (all_oneCell_toArray H1X.out) ?_;intro w5 B9b r5;have HB9b:=Za B9b;have HB10b:=Za (HB10.out.kept r5 (Ne.symm hne));have Hb5:=Za (Ze Hb4.out r5 Hg9.out);clear B9b r5)
      |((with_reducible refine Zag 10 ?_);refine Zf _ rfl _ _ _ rfl b10 _ Y.toArray rfl rfl HB10b.out HLY.out HZY.out (all_oneCell_toArray H1Y.out) ?_;intro w6 B10c r6;have HB9c:=HB9b.out.kept r6 hne;have Hb6:=Za (Ze Hb5.out r6 Hg10.out);have c90:=HB9c.cell 0;have c91:=HB9c.cell 1;have c100:=B10c.cell 0;have c101:=B10c.cell 1;rw [List.getElem?_toArray,HX0.out] at c90;rw [List.getElem?_toArray,HX1.out] at c91;rw [List.getElem?_toArray,HY0.out] at c100;rw [List.getElem?_toArray,HY1.out] at c101;clear B10c r6 HB9c)
      |(go_at_call 173;first | (refine (HEr.out _ Hb7.out).mono ?_;rintro e w8 ⟨a2,c2,its2,rfl,m2,hl2,p2,o2,q2⟩;have O1b:=Za (Zl O1.out q2);have O2:=Za o2;have P2:=Za p2;have M2:=Za m2;have Hb8:=Za (Zb Hb7.out q2);have HL2:=Za hl2;clear o2 p2 m2 q2 hl2) | (refine (HEl.out _ Hb6.out).mono ?_;rintro e w7 ⟨a1,c1,its1,rfl,m1,hl1,p1,o1,q1⟩;have O1:=Za o1;have P1:=Za p1;have M1:=Za m1;have Hb7:=Za (Zb Hb6.out q1);have HL1:=Za hl1;clear o1 p1 m1 q1 hl1))
      |(refine Ziw _ rfl rfl ?_;intro w10 b0 hg0 o0 q0;have O0:Hid (w10.ownsRow w.heap.size 58 33 (.slice (some ⟨b0,0,none⟩) 0 0) 0 []):=Zaj o0 Hb8.out.size;have O1c:=Za (Zl O1b.out q0);have O2b:=Za (Zl O2.out q0);have Hb10:=Za (Zb Hb8.out q0);have Hg0:Hid (w8.heap.size≤b0):=hg0;clear o0 q0 hg0)
      |(at_builtin;refine Zcq _ rfl _ _ rfl w.heap.size w7.heap.size v8 (.slice a2 n2 c2) (0+n1) n2 _ _ rfl rfl O3.out O2c.out (Zdj P2.out) (by omega) Hb11.out.size ?_;intro v9 w12 o9 g9;obtain ⟨a9,c9,rfl⟩:=Zj (Zu o9);have O9:=Za o9;have Hb12:=Za (Zaf Hb11.out O3.out (Nat.le_refl _) g9);clear o9 g9)
      |(at_builtin;refine Zcq _ rfl _ _ rfl w.heap.size w6.heap.size (.slice (some ⟨b0,0,none⟩) 0 0) (.slice a1 n1 c1) 0 n1 _ _ rfl rfl O0.out O1c.out (Zdj P1.out) (by omega) Hb10.out.size ?_;intro v8 w11 o8 g8;have O3:=Za o8;have O2c:Hid (w11.ownsRow w7.heap.size 58 33 (.slice a2 n2 c2) n2 (flatP its2)):=Zlo O2b.out g8 (fun k e1 e2=>Nat.lt_irrefl _ (Nat.lt_of_lt_of_le (O2.out.lt k e1).2 (by have:b0=k:=(by simpa [Value.ownBlock] using e2);rw [← this];exact Hg0.out)));have Hb11:=Za (Zaf Hb10.out O0.out (Nat.le_refl _) g8);clear o8 g8))
  go_ret;exact ⟨rfl,Hb6.out⟩
theorem Zet {l r kl kr:Int} {X Y Z:List Value} {dl dr:Int} {n1 n2:Nat} {b:Bool} {dpl dpr:Nat} (F:FitH w g d l r X Y Z kl kr dl dr A C es n1 n2 b dpl dpr) (hd:d<256) (hk:(kl=2∧kr=0∧(l == 0)=false∧(r == 0)=true∧2≤n1∧n2=0∧dl=(d:Int)+1)∨(kl=2∧kr=1∧(l == 0)=false∧(r == 0)=false∧2≤n1∧n2=1∧dl=(d:Int)+1)∨(kl=2∧kr=2∧(l == 0)=false∧(r == 0)=false∧2≤n1∧2≤n2∧dl=(d:Int)+1∧dr=(d:Int)+1)∨(kl=0∧kr=2∧(l == 0)=true∧(r == 0)=false∧n1=0∧2≤n2∧dr=(d:Int)+1)∨(kl=1∧kr=2∧(l == 0)=false∧(r == 0)=false∧n1=1∧2≤n2∧dr=(d:Int)+1)∨(kl=1∧kr=1∧(l == 0)=false∧(r == 0)=false∧n1=1∧n2=1)):Kc 196 #[.pointer (some ⟨g,0,none⟩),.int .i64 (d:Int),.int .i64 l,.int .i64 r] w fun e w'=>e=.returned (.bool b)∧Kb w w':=by
 have HEl:=Za F.HEl;have HEr:=Za F.HEr;have HAl:=Za F.HAl;have HAr:=Za F.HAr;have HLX:=Za F.HLX;have HLY:=Za F.HLY;have HZ:=Za F.HZ;have HZX:=Za F.HZX;have HZY:=Za F.HZY;have H1X:=Za F.H1X;have H1Y:=Za F.H1Y;have HX0:=Za F.HX0;have HX1:=Za F.HX1;have HY0:=Za F.HY0;have HY1:=Za F.HY1;have HES:=Za F.HES;have hdl:=F.hdl;have hdr:=F.hdr;have hle:=F.hle;have fl:=F.fl;have fr':=F.fr;have hfit:=F.hfit;clear F;rcases hk with ⟨rfl,rfl,ql,qr,ll,lr,rfl⟩ | ⟨rfl,rfl,ql,qr,ll,lr,rfl⟩ | ⟨rfl,rfl,ql,qr,ll,lr,rfl,rfl⟩ | ⟨rfl,rfl,ql,qr,ll,lr,rfl⟩ | ⟨rfl,rfl,ql,qr,ll,lr,rfl⟩ | ⟨rfl,rfl,ql,qr,ll,lr⟩
 all_goals
  have HGD:Hid ((∀i,i<es.length→Good7 d n1 es i)→b=true):=fun hg=>hfit.2 ⟨by omega,fun e=>by omega,fun e=>by omega,hg⟩
  have HBD:Hid (∀i,i<es.length→ ¬Good7 d n1 es i→b=false):=fun i hi hn=>by
   rw [← Bool.not_eq_true];intro hbt;exact hn ((hfit.1 hbt).2.2.2 i hi)
  have hp2:2≤n1+n2:=by omega
  clear hfit ll lr;go_enter Tryz.func196,Tryz.ntmps196
  go_wp2_with (first
      |(go_at_call 94;first | (refine (HAr.out _ Hb1.out).mono ?_;rintro e w2 ⟨rfl,b2⟩;have Hb2:=Za (Zb Hb1.out b2);clear b2) | (refine (HAl.out _ (Below.refl _ _)).mono ?_;rintro e w1 ⟨rfl,b1⟩;have Hb1:=Za b1;clear b1))
      |((with_reducible refine Zv 9 ?_);refine Zh _ rfl _ rfl _ HZ.out ?_;intro w3 b9 hg9 hl9 B9 b3;have HB9:=Za B9;have Hb3:=Za (Zb Hb2.out b3);have Hg9:Hid (w.heap.size≤b9):=Nat.le_trans Hb2.out.size hg9;clear B9 hg9 hl9 b3)
      |((with_reducible refine Zv 10 ?_);refine Zh _ rfl _ rfl _ HZ.out ?_;intro w4 b10 hg10 hl10 B10 b4;have HB9a:=Za (HB9.out.grow b4);have HB10:=Za B10;have Hb4:=Za (Zb Hb3.out b4);have hne:b9≠b10:=(by have:=HB9.out.lt;omega);have Hg10:Hid (w.heap.size≤b10):=Nat.le_trans Hb3.out.size hg10;clear B10 hg10 hl10 b4)
      |((with_reducible refine Zag 9 ?_);refine Zf _ rfl _ _ _ rfl b9 _ X.toArray rfl rfl HB9a.out HLX.out HZX.out (all_oneCell_toArray H1X.out) ?_;intro w5 B9b r5;have HB9b:=Za B9b;have HB10b:=Za (HB10.out.kept r5 (Ne.symm hne));have Hb5:=Za (Ze Hb4.out r5 Hg9.out);clear B9b r5)
      |((with_reducible refine Zag 10 ?_);refine Zf _ rfl _ _ _ rfl b10 _ Y.toArray rfl rfl HB10b.out HLY.out HZY.out (all_oneCell_toArray H1Y.out) ?_;intro w6 B10c r6;have HB9c:=HB9b.out.kept r6 hne;have Hb6:=Za (Ze Hb5.out r6 Hg10.out);have c90:=HB9c.cell 0;have c91:=HB9c.cell 1;have c100:=B10c.cell 0;have c101:=B10c.cell 1;rw [List.getElem?_toArray,HX0.out] at c90;rw [List.getElem?_toArray,HX1.out] at c91;rw [List.getElem?_toArray,HY0.out] at c100;rw [List.getElem?_toArray,HY1.out] at c101;clear B10c r6 HB9c)
      |(go_at_call 173;first | (refine (HEr.out _ Hb7.out).mono ?_;rintro e w8 ⟨a2,c2,its2,rfl,m2,hl2,p2,o2,q2⟩;have O1b:=Za (Zl O1.out q2);have O2:=Za o2;have P2:=Za p2;have M2:=Za m2;have Hb8:=Za (Zb Hb7.out q2);have HL2:=Za hl2;clear o2 p2 m2 q2 hl2) | (refine (HEl.out _ Hb6.out).mono ?_;rintro e w7 ⟨a1,c1,its1,rfl,m1,hl1,p1,o1,q1⟩;have O1:=Za o1;have P1:=Za p1;have M1:=Za m1;have Hb7:=Za (Zb Hb6.out q1);have HL1:=Za hl1;clear o1 p1 m1 q1 hl1))
      |(refine Ziw _ rfl rfl ?_;intro w10 b0 hg0 o0 q0;have O0:Hid (w10.ownsRow w.heap.size 58 33 (.slice (some ⟨b0,0,none⟩) 0 0) 0 []):=Zaj o0 Hb8.out.size;have O1c:=Za (Zl O1b.out q0);have O2b:=Za (Zl O2.out q0);have Hb10:=Za (Zb Hb8.out q0);have Hg0:Hid (w8.heap.size≤b0):=hg0;clear o0 q0 hg0)
      |(at_builtin;refine Zcq _ rfl _ _ rfl w.heap.size w7.heap.size v8 (.slice a2 n2 c2) (0+n1) n2 _ _ rfl rfl O3.out O2c.out (Zdj P2.out) (by omega) Hb11.out.size ?_;intro v9 w12 o9 g9;obtain ⟨a9,c9,rfl⟩:=Zj (Zu o9);have O9:=Za o9;have Hb12:=Za (Zaf Hb11.out O3.out (Nat.le_refl _) g9);clear o9 g9)
      |(at_builtin;refine Zcq _ rfl _ _ rfl w.heap.size w6.heap.size (.slice (some ⟨b0,0,none⟩) 0 0) (.slice a1 n1 c1) 0 n1 _ _ rfl rfl O0.out O1c.out (Zdj P1.out) (by omega) Hb10.out.size ?_;intro v8 w11 o8 g8;have O3:=Za o8;have O2c:Hid (w11.ownsRow w7.heap.size 58 33 (.slice a2 n2 c2) n2 (flatP its2)):=Zlo O2b.out g8 (fun k e1 e2=>Nat.lt_irrefl _ (Nat.lt_of_lt_of_le (O2.out.lt k e1).2 (by have:b0=k:=(by simpa [Value.ownBlock] using e2);rw [← this];exact Hg0.out)));have Hb11:=Za (Zaf Hb10.out O0.out (Nat.le_refl _) g8);clear o8 g8))
  obtain ⟨its,hits⟩:∃its,its=its1++its2:=⟨_,rfl⟩;have O10:w12.ownsRow w.heap.size 58 33 (.slice a9 (0+n1+n2) c9) (0+n1+n2) ([]++flatP its1++flatP its2):=O9.out;have hnn:0+n1+n2=its.length:=by rw [hits,List.length_append,HL1.out,HL2.out,Nat.zero_add]
  rw [List.nil_append,show flatP its1++flatP its2=flatP its by rw [hits];simp [flatP],hnn] at O10;have hmi:its.map (·.1)=es:=by rw [hits,List.map_append,M1.out,M2.out,HES.out]
  have hPi:∀p∈its,Key p.1.1∧Reads w p.2 p.1.2:=fun p hp=>by
   rw [hits] at hp;rcases List.mem_append.1 hp with hp | hp
   ·exact P1.out p hp
   ·exact P2.out p hp
  have hpr:=Zpf O10 (fun p hp=>(hPi p hp).1) (fun p hp=>(hPi p hp).2.grow Hb12.out);rw [hmi] at hpr;have hil:its.length=es.length:=by rw [← hmi,List.length_map]
  obtain ⟨a',c',he',_,hrr,hkk⟩:=hpr;obtain ⟨ge,off,ea,hr9⟩:=hrr (by omega);injection he' with e1 e2 e3;subst e3;rw [ea] at e1;subst e1;clear e2;have HRA:Hid (∀(i:Nat) w',i<es.length→Kb w12 w'→w'.rangeAt ge (off+i * 33) (B (es.getD i e00).1).toList∧Key (es.getD i e00).1):=fun i w' hi hb=>⟨Zha (Zui (hr9 i hi)) hb,(hkk i hi).1⟩
  obtain ⟨n,hn⟩:∃n,n=n1+n2:=⟨_,rfl⟩;have hn2:0+n1+n2=n:=by omega
  have HnE:Hid (n=es.length):=by show _=_;omega
  have hn3:n1+n2=n:=by omega
  first | simp only [hn2] | simp only [hn3]
  have hpos:0<n:=by omega
  have hn120:n≤10000:=by omega
  clear O10 hPi hrr hkk hr9 O9 O3 O2c O2b O2 O1 O1b O1c O0 P1 P2 M1 M2 hits hmi hil hn2 hn3 hn hnn hle HL1 HL2 c90 c91 c100 c101
  go_loopw [14] (fun i wr=>∃(k:Nat),k≤n∧i=.int .i64 k∧(∀i,i<k→Good7 d n1 es i)∧Kb w12 wr) (fun i _=>n-(intOf i).toNat)
  case atStart=>exact ⟨0,by omega,rfl,fun i hi=>by omega,Below.refl _ _⟩
  case round=>
   obtain ⟨k,hk,rfl,hgs,hbw⟩:=hrel
   by_cases hlt:k<n
   ·have z1:(k:Int)<(n:Int):=by omega
    have z0:(0:Int)≤(k:Int):=by omega
    have z2:(0:Int)<(n:Int):=by omega
    obtain ⟨_,hK1⟩:=HRA.out k w12 (by have:=HnE.out;omega) (Below.refl _ _);obtain ⟨_,hK0⟩:=HRA.out 0 w12 (by have:=HnE.out;omega) (Below.refl _ _);have HRk:Hid (∀w',Kb wr w'→w'.rangeAt ge (off+k * 33) (B (es.getD k e00).1).toList):=fun w' hb=>(HRA.out k w' (by have:=HnE.out;omega) (Zb hbw hb)).1
    have HR0:Hid (∀w',Kb wr w'→w'.rangeAt ge off (B (es.getD 0 e00).1).toList):=fun w' hb=>by
     have:=(HRA.out 0 w' (by have:=HnE.out;omega) (Zb hbw hb)).1;rwa [Nat.zero_mul,Nat.add_zero] at this
    have HPLk:Hid ((Tryz.prog.info? 48).map (·.size)=some (B (es.getD k e00).1).toList.length):=by show _=_;rw [Zaz,List.length_map,hK1.1];exact Zjx
    have HPL0:Hid ((Tryz.prog.info? 48).map (·.size)=some (B (es.getD 0 e00).1).toList.length):=by show _=_;rw [Zaz,List.length_map,hK0.1];exact Zjx
    obtain ⟨K1,hK1e⟩:∃K,K=(es.getD k e00).1:=⟨_,rfl⟩;obtain ⟨K0,hK0e⟩:∃K,K=(es.getD 0 e00).1:=⟨_,rfl⟩;rw [← hK1e] at HRk HPLk hK1;rw [← hK0e] at HR0 HPL0 hK0;have HKe:=Za hK1e.symm;have HK0e:=Za hK0e.symm;obtain ⟨c,hc⟩:=Zmk K1 K0;have HIC:=Za hc;have HBit:Hid (∀w',Kc 169 #[.agg (B K1),.int .i64 (d:Int)] w' fun e w''=>e=.returned (.int .i64 (kb K1 d))∧Below w'.heap.size w' w''):=fun w'=>by
     have:=Zzn K1 d w' hK1;rwa [Zei _ _ hd] at this
    have HCom:Hid (∀w',Kc 143 #[.agg (B K1),.agg (B K0)] w' fun e w''=>e=.returned (.int .i64 (c:Int))∧Below w'.heap.size w' w''):=fun w'=>Zgi K1 K0 c w' hK1 hK0 hc
    clear hK1e hK0e hc
    by_cases hb1:k<n1
    ·have y1:(k:Int)<(n1:Int):=by omega
     have hbit:(if k<n1 then (0:Int) else 1)=0:=if_pos hb1
     by_cases hkb:kb K1 d=0
     ·rw [hkb] at HBit
      by_cases hcd:c<d
      ·have hcd2:(c:Int)<(d:Int):=by omega
       have HBAD:Hid (b=false):=HBD.out k (by have:=HnE.out;omega) (fun hg=>by have h2:=hg.2;rw [HKe.out,HK0e.out] at h2;have:=(Zdg HIC.out (d:Int) (by omega) (by omega)).2 h2;omega)
       go_wp2_with fail
       refine wp_region_held_drew (S:=fun w'=>Kb wr w') (by kernel_rfl) (below_drewN (Below.refl _ _) 1) (fun hHeld=>?_);refine tkp 0 (.slice (some ⟨ge,off,none⟩) n c9) hHeld ?_;simp only [zq];refine tkp 1 (.int .i64 (k:Int)) hHeld ?_;simp only [zq];refine tkp 2 (.pointer (some ⟨ge,off+k * 33,none⟩)) hHeld ?_;simp only [zq];refine tkp 3 (.pointer (some ⟨ge,off+k * 33,none⟩)) hHeld ?_;simp only [zq];refine tkg 4 (.agg (B K1)) rfl (yieldsIf_load_mid rfl 48 (.tmp 92) rfl ge (off+k * 33) rfl (B K1).toList _ (fun w hS=>HRk.out _ hS) Tryz.underlying48 rfl HPLk.out) hHeld ?_;simp only [zq];refine tkp 5 (.int .i64 (d:Int)) hHeld ?_;simp only [zq];refine tkp 7 (.int .i64 0) hHeld ?_;simp only [zq];refine wpAnyH_ready (rs:=[6]) (by kernel_rfl) (by simp) ?_;refine AllReadyH.cons rfl (fun KQ hK=>?_) AllReadyH.nil;go_simp;refine (HBit.out _).mono ?_;rintro e z1 ⟨rfl,a1⟩;refine hK.out _ _ (Zb hHeld a1) (fun hHeld=>?_);clear hK KQ;refine tkp 8 (.bool false) hHeld ?_;simp only [zq];refine tkp 9 (.bool false) hHeld ?_;simp only [zq];refine tkp 10 (.slice (some ⟨ge,off,none⟩) n c9) hHeld ?_;simp only [zq];refine tkp 11 (.int .i64 (k:Int)) hHeld ?_;simp only [zq];refine tkp 12 (.pointer (some ⟨ge,off+k * 33,none⟩)) hHeld ?_;simp only [zq];refine tkp 13 (.pointer (some ⟨ge,off+k * 33,none⟩)) hHeld ?_;simp only [zq];refine tkg 14 (.agg (B K1)) rfl (yieldsIf_load_mid rfl 48 (.tmp 102) rfl ge (off+k * 33) rfl (B K1).toList _ (fun w hS=>HRk.out _ hS) Tryz.underlying48 rfl HPLk.out) hHeld ?_;simp only [zq];refine tkp 15 (.slice (some ⟨ge,off,none⟩) n c9) hHeld ?_;simp only [zq];refine tkp 16 (.pointer (some ⟨ge,off,none⟩)) hHeld ?_;simp only [zq];refine tkp 17 (.pointer (some ⟨ge,off,none⟩)) hHeld ?_;simp only [zq];refine tkg 18 (.agg (B K0)) rfl (yieldsIf_load_mid rfl 48 (.tmp 106) rfl ge (off) rfl (B K0).toList _ (fun w hS=>HR0.out _ hS) Tryz.underlying48 rfl HPL0.out) hHeld ?_;simp only [zq];refine tkp 20 (.int .i64 (d:Int)) hHeld ?_;simp only [zq];refine wpAnyH_ready (rs:=[19]) (by kernel_rfl) (by simp) ?_;refine AllReadyH.cons rfl (fun KQ hK=>?_) AllReadyH.nil;go_simp;refine (HCom.out _).mono ?_;rintro e z2 ⟨rfl,a2⟩;refine hK.out _ _ (Zb hHeld a2) (fun hHeld=>?_);clear hK KQ;refine tkp 21 (.bool true) hHeld ?_;simp only [zq];refine tkp 22 (.bool true) hHeld ?_;simp only [zq];refine wpAnyH_done (by kernel_rfl) ?_ _;have HQz:=Za (Zb Hb12.out (Zb hbw hHeld))
       go_wp2_with fail
       go_ret;exact ⟨by rw [HBAD.out];rfl,HQz.out⟩
      ·have hcd2: ¬(c:Int)<(d:Int):=by omega
       have HGS:Hid (∀i,i<k+1→Good7 d n1 es i):=fun i hi=>by
        by_cases hik:i<k
        ·exact hgs i hik
        ·obtain rfl:i=k:=by omega
         exact ⟨by rw [HKe.out,hbit];exact hkb,by rw [HKe.out,HK0e.out];exact (Zdg HIC.out (d:Int) (by omega) (by omega)).1 (by omega)⟩
       go_wp2_with fail
       refine wp_region_held_drew (S:=fun w'=>Kb wr w') (by kernel_rfl) (below_drewN (Below.refl _ _) 1) (fun hHeld=>?_);refine tkp 0 (.slice (some ⟨ge,off,none⟩) n c9) hHeld ?_;simp only [zq];refine tkp 1 (.int .i64 (k:Int)) hHeld ?_;simp only [zq];refine tkp 2 (.pointer (some ⟨ge,off+k * 33,none⟩)) hHeld ?_;simp only [zq];refine tkp 3 (.pointer (some ⟨ge,off+k * 33,none⟩)) hHeld ?_;simp only [zq];refine tkg 4 (.agg (B K1)) rfl (yieldsIf_load_mid rfl 48 (.tmp 92) rfl ge (off+k * 33) rfl (B K1).toList _ (fun w hS=>HRk.out _ hS) Tryz.underlying48 rfl HPLk.out) hHeld ?_;simp only [zq];refine tkp 5 (.int .i64 (d:Int)) hHeld ?_;simp only [zq];refine tkp 7 (.int .i64 0) hHeld ?_;simp only [zq];refine wpAnyH_ready (rs:=[6]) (by kernel_rfl) (by simp) ?_;refine AllReadyH.cons rfl (fun KQ hK=>?_) AllReadyH.nil;go_simp;refine (HBit.out _).mono ?_;rintro e z1 ⟨rfl,a1⟩;refine hK.out _ _ (Zb hHeld a1) (fun hHeld=>?_);clear hK KQ;refine tkp 8 (.bool false) hHeld ?_;simp only [zq];refine tkp 9 (.bool false) hHeld ?_;simp only [zq];refine tkp 10 (.slice (some ⟨ge,off,none⟩) n c9) hHeld ?_;simp only [zq];refine tkp 11 (.int .i64 (k:Int)) hHeld ?_;simp only [zq];refine tkp 12 (.pointer (some ⟨ge,off+k * 33,none⟩)) hHeld ?_;simp only [zq];refine tkp 13 (.pointer (some ⟨ge,off+k * 33,none⟩)) hHeld ?_;simp only [zq];refine tkg 14 (.agg (B K1)) rfl (yieldsIf_load_mid rfl 48 (.tmp 102) rfl ge (off+k * 33) rfl (B K1).toList _ (fun w hS=>HRk.out _ hS) Tryz.underlying48 rfl HPLk.out) hHeld ?_;simp only [zq];refine tkp 15 (.slice (some ⟨ge,off,none⟩) n c9) hHeld ?_;simp only [zq];refine tkp 16 (.pointer (some ⟨ge,off,none⟩)) hHeld ?_;simp only [zq];refine tkp 17 (.pointer (some ⟨ge,off,none⟩)) hHeld ?_;simp only [zq];refine tkg 18 (.agg (B K0)) rfl (yieldsIf_load_mid rfl 48 (.tmp 106) rfl ge (off) rfl (B K0).toList _ (fun w hS=>HR0.out _ hS) Tryz.underlying48 rfl HPL0.out) hHeld ?_;simp only [zq];refine tkp 20 (.int .i64 (d:Int)) hHeld ?_;simp only [zq];refine wpAnyH_ready (rs:=[19]) (by kernel_rfl) (by simp) ?_;refine AllReadyH.cons rfl (fun KQ hK=>?_) AllReadyH.nil;go_simp;refine (HCom.out _).mono ?_;rintro e z2 ⟨rfl,a2⟩;refine hK.out _ _ (Zb hHeld a2) (fun hHeld=>?_);clear hK KQ;refine tkp 21 (.bool false) hHeld ?_;simp only [zq];refine tkp 22 (.bool false) hHeld ?_;simp only [zq];refine wpAnyH_done (by kernel_rfl) ?_ _;have HQz:=Za (Zb hbw hHeld)
       go_wp2_with fail
       exact ⟨⟨k+1,by omega,by go_num,HGS.out,HQz.out⟩,by simp [intOf];omega⟩
     ·have HBAD:Hid (b=false):=HBD.out k (by have:=HnE.out;omega) (fun hg=>hkb (by have:=hg.1;rw [HKe.out,hbit] at this;exact this))
      go_wp2_with fail
      refine wp_region_held_drew (S:=fun w'=>Kb wr w') (by kernel_rfl) (below_drewN (Below.refl _ _) 1) (fun hHeld=>?_);refine tkp 0 (.slice (some ⟨ge,off,none⟩) n c9) hHeld ?_;simp only [zq];refine tkp 1 (.int .i64 (k:Int)) hHeld ?_;simp only [zq];refine tkp 2 (.pointer (some ⟨ge,off+k * 33,none⟩)) hHeld ?_;simp only [zq];refine tkp 3 (.pointer (some ⟨ge,off+k * 33,none⟩)) hHeld ?_;simp only [zq];refine tkg 4 (.agg (B K1)) rfl (yieldsIf_load_mid rfl 48 (.tmp 92) rfl ge (off+k * 33) rfl (B K1).toList _ (fun w hS=>HRk.out _ hS) Tryz.underlying48 rfl HPLk.out) hHeld ?_;simp only [zq];refine tkp 5 (.int .i64 (d:Int)) hHeld ?_;simp only [zq];refine tkp 7 (.int .i64 0) hHeld ?_;simp only [zq];refine wpAnyH_ready (rs:=[6]) (by kernel_rfl) (by simp) ?_;refine AllReadyH.cons rfl (fun KQ hK=>?_) AllReadyH.nil;go_simp;refine (HBit.out _).mono ?_;rintro e z1 ⟨rfl,a1⟩;refine hK.out _ _ (Zb hHeld a1) (fun hHeld=>?_);clear hK KQ;refine tkp 8 (.bool true) hHeld ?_;simp only [zq];refine tkp 9 (.bool true) hHeld ?_;simp only [zq];refine tks 10 hHeld ?_;simp only [zq];refine tks 11 hHeld ?_;simp only [zq];refine tks 12 hHeld ?_;simp only [zq];refine tks 13 hHeld ?_;simp only [zq];refine tks 14 hHeld ?_;simp only [zq];refine tks 15 hHeld ?_;simp only [zq];refine tks 16 hHeld ?_;simp only [zq];refine tks 17 hHeld ?_;simp only [zq];refine tks 18 hHeld ?_;simp only [zq];refine tks 19 hHeld ?_;simp only [zq];refine tks 20 hHeld ?_;simp only [zq];refine tks 21 hHeld ?_;simp only [zq];refine tkp 22 (.bool true) hHeld ?_;simp only [zq];refine wpAnyH_done (by kernel_rfl) ?_ _;have HQz:=Za (Zb Hb12.out (Zb hbw hHeld))
      go_wp2_with fail
      go_ret;exact ⟨by rw [HBAD.out];rfl,HQz.out⟩
    ·have y1:(n1:Int)≤(k:Int):=by omega
     have hbit:(if k<n1 then (0:Int) else 1)=1:=if_neg hb1
     by_cases hkb:kb K1 d=1
     ·rw [hkb] at HBit
      by_cases hcd:c<d
      ·have hcd2:(c:Int)<(d:Int):=by omega
       have HBAD:Hid (b=false):=HBD.out k (by have:=HnE.out;omega) (fun hg=>by have h2:=hg.2;rw [HKe.out,HK0e.out] at h2;have:=(Zdg HIC.out (d:Int) (by omega) (by omega)).2 h2;omega)
       go_wp2_with fail
       refine wp_region_held_drew (S:=fun w'=>Kb wr w') (by kernel_rfl) (below_drewN (Below.refl _ _) 1) (fun hHeld=>?_);refine tkp 0 (.slice (some ⟨ge,off,none⟩) n c9) hHeld ?_;simp only [zq];refine tkp 1 (.int .i64 (k:Int)) hHeld ?_;simp only [zq];refine tkp 2 (.pointer (some ⟨ge,off+k * 33,none⟩)) hHeld ?_;simp only [zq];refine tkp 3 (.pointer (some ⟨ge,off+k * 33,none⟩)) hHeld ?_;simp only [zq];refine tkg 4 (.agg (B K1)) rfl (yieldsIf_load_mid rfl 48 (.tmp 92) rfl ge (off+k * 33) rfl (B K1).toList _ (fun w hS=>HRk.out _ hS) Tryz.underlying48 rfl HPLk.out) hHeld ?_;simp only [zq];refine tkp 5 (.int .i64 (d:Int)) hHeld ?_;simp only [zq];refine tkp 7 (.int .i64 1) hHeld ?_;simp only [zq];refine wpAnyH_ready (rs:=[6]) (by kernel_rfl) (by simp) ?_;refine AllReadyH.cons rfl (fun KQ hK=>?_) AllReadyH.nil;go_simp;refine (HBit.out _).mono ?_;rintro e z1 ⟨rfl,a1⟩;refine hK.out _ _ (Zb hHeld a1) (fun hHeld=>?_);clear hK KQ;refine tkp 8 (.bool false) hHeld ?_;simp only [zq];refine tkp 9 (.bool false) hHeld ?_;simp only [zq];refine tkp 10 (.slice (some ⟨ge,off,none⟩) n c9) hHeld ?_;simp only [zq];refine tkp 11 (.int .i64 (k:Int)) hHeld ?_;simp only [zq];refine tkp 12 (.pointer (some ⟨ge,off+k * 33,none⟩)) hHeld ?_;simp only [zq];refine tkp 13 (.pointer (some ⟨ge,off+k * 33,none⟩)) hHeld ?_;simp only [zq];refine tkg 14 (.agg (B K1)) rfl (yieldsIf_load_mid rfl 48 (.tmp 102) rfl ge (off+k * 33) rfl (B K1).toList _ (fun w hS=>HRk.out _ hS) Tryz.underlying48 rfl HPLk.out) hHeld ?_;simp only [zq];refine tkp 15 (.slice (some ⟨ge,off,none⟩) n c9) hHeld ?_;simp only [zq];refine tkp 16 (.pointer (some ⟨ge,off,none⟩)) hHeld ?_;simp only [zq];refine tkp 17 (.pointer (some ⟨ge,off,none⟩)) hHeld ?_;simp only [zq];refine tkg 18 (.agg (B K0)) rfl (yieldsIf_load_mid rfl 48 (.tmp 106) rfl ge (off) rfl (B K0).toList _ (fun w hS=>HR0.out _ hS) Tryz.underlying48 rfl HPL0.out) hHeld ?_;simp only [zq];refine tkp 20 (.int .i64 (d:Int)) hHeld ?_;simp only [zq];refine wpAnyH_ready (rs:=[19]) (by kernel_rfl) (by simp) ?_;refine AllReadyH.cons rfl (fun KQ hK=>?_) AllReadyH.nil;go_simp;refine (HCom.out _).mono ?_;rintro e z2 ⟨rfl,a2⟩;refine hK.out _ _ (Zb hHeld a2) (fun hHeld=>?_);clear hK KQ;refine tkp 21 (.bool true) hHeld ?_;simp only [zq];refine tkp 22 (.bool true) hHeld ?_;simp only [zq];refine wpAnyH_done (by kernel_rfl) ?_ _;have HQz:=Za (Zb Hb12.out (Zb hbw hHeld))
       go_wp2_with fail
       go_ret;exact ⟨by rw [HBAD.out];rfl,HQz.out⟩
      ·have hcd2: ¬(c:Int)<(d:Int):=by omega
       have HGS:Hid (∀i,i<k+1→Good7 d n1 es i):=fun i hi=>by
        by_cases hik:i<k
        ·exact hgs i hik
        ·obtain rfl:i=k:=by omega
         exact ⟨by rw [HKe.out,hbit];exact hkb,by rw [HKe.out,HK0e.out];exact (Zdg HIC.out (d:Int) (by omega) (by omega)).1 (by omega)⟩
       go_wp2_with fail
       refine wp_region_held_drew (S:=fun w'=>Kb wr w') (by kernel_rfl) (below_drewN (Below.refl _ _) 1) (fun hHeld=>?_);refine tkp 0 (.slice (some ⟨ge,off,none⟩) n c9) hHeld ?_;simp only [zq];refine tkp 1 (.int .i64 (k:Int)) hHeld ?_;simp only [zq];refine tkp 2 (.pointer (some ⟨ge,off+k * 33,none⟩)) hHeld ?_;simp only [zq];refine tkp 3 (.pointer (some ⟨ge,off+k * 33,none⟩)) hHeld ?_;simp only [zq];refine tkg 4 (.agg (B K1)) rfl (yieldsIf_load_mid rfl 48 (.tmp 92) rfl ge (off+k * 33) rfl (B K1).toList _ (fun w hS=>HRk.out _ hS) Tryz.underlying48 rfl HPLk.out) hHeld ?_;simp only [zq];refine tkp 5 (.int .i64 (d:Int)) hHeld ?_;simp only [zq];refine tkp 7 (.int .i64 1) hHeld ?_;simp only [zq];refine wpAnyH_ready (rs:=[6]) (by kernel_rfl) (by simp) ?_;refine AllReadyH.cons rfl (fun KQ hK=>?_) AllReadyH.nil;go_simp;refine (HBit.out _).mono ?_;rintro e z1 ⟨rfl,a1⟩;refine hK.out _ _ (Zb hHeld a1) (fun hHeld=>?_);clear hK KQ;refine tkp 8 (.bool false) hHeld ?_;simp only [zq];refine tkp 9 (.bool false) hHeld ?_;simp only [zq];refine tkp 10 (.slice (some ⟨ge,off,none⟩) n c9) hHeld ?_;simp only [zq];refine tkp 11 (.int .i64 (k:Int)) hHeld ?_;simp only [zq];refine tkp 12 (.pointer (some ⟨ge,off+k * 33,none⟩)) hHeld ?_;simp only [zq];refine tkp 13 (.pointer (some ⟨ge,off+k * 33,none⟩)) hHeld ?_;simp only [zq];refine tkg 14 (.agg (B K1)) rfl (yieldsIf_load_mid rfl 48 (.tmp 102) rfl ge (off+k * 33) rfl (B K1).toList _ (fun w hS=>HRk.out _ hS) Tryz.underlying48 rfl HPLk.out) hHeld ?_;simp only [zq];refine tkp 15 (.slice (some ⟨ge,off,none⟩) n c9) hHeld ?_;simp only [zq];refine tkp 16 (.pointer (some ⟨ge,off,none⟩)) hHeld ?_;simp only [zq];refine tkp 17 (.pointer (some ⟨ge,off,none⟩)) hHeld ?_;simp only [zq];refine tkg 18 (.agg (B K0)) rfl (yieldsIf_load_mid rfl 48 (.tmp 106) rfl ge (off) rfl (B K0).toList _ (fun w hS=>HR0.out _ hS) Tryz.underlying48 rfl HPL0.out) hHeld ?_;simp only [zq];refine tkp 20 (.int .i64 (d:Int)) hHeld ?_;simp only [zq];refine wpAnyH_ready (rs:=[19]) (by kernel_rfl) (by simp) ?_;refine AllReadyH.cons rfl (fun KQ hK=>?_) AllReadyH.nil;go_simp;refine (HCom.out _).mono ?_;rintro e z2 ⟨rfl,a2⟩;refine hK.out _ _ (Zb hHeld a2) (fun hHeld=>?_);clear hK KQ;refine tkp 21 (.bool false) hHeld ?_;simp only [zq];refine tkp 22 (.bool false) hHeld ?_;simp only [zq];refine wpAnyH_done (by kernel_rfl) ?_ _;have HQz:=Za (Zb hbw hHeld)
       go_wp2_with fail
       exact ⟨⟨k+1,by omega,by go_num,HGS.out,HQz.out⟩,by simp [intOf];omega⟩
     ·have HBAD:Hid (b=false):=HBD.out k (by have:=HnE.out;omega) (fun hg=>hkb (by have:=hg.1;rw [HKe.out,hbit] at this;exact this))
      go_wp2_with fail
      refine wp_region_held_drew (S:=fun w'=>Kb wr w') (by kernel_rfl) (below_drewN (Below.refl _ _) 1) (fun hHeld=>?_);refine tkp 0 (.slice (some ⟨ge,off,none⟩) n c9) hHeld ?_;simp only [zq];refine tkp 1 (.int .i64 (k:Int)) hHeld ?_;simp only [zq];refine tkp 2 (.pointer (some ⟨ge,off+k * 33,none⟩)) hHeld ?_;simp only [zq];refine tkp 3 (.pointer (some ⟨ge,off+k * 33,none⟩)) hHeld ?_;simp only [zq];refine tkg 4 (.agg (B K1)) rfl (yieldsIf_load_mid rfl 48 (.tmp 92) rfl ge (off+k * 33) rfl (B K1).toList _ (fun w hS=>HRk.out _ hS) Tryz.underlying48 rfl HPLk.out) hHeld ?_;simp only [zq];refine tkp 5 (.int .i64 (d:Int)) hHeld ?_;simp only [zq];refine tkp 7 (.int .i64 1) hHeld ?_;simp only [zq];refine wpAnyH_ready (rs:=[6]) (by kernel_rfl) (by simp) ?_;refine AllReadyH.cons rfl (fun KQ hK=>?_) AllReadyH.nil;go_simp;refine (HBit.out _).mono ?_;rintro e z1 ⟨rfl,a1⟩;refine hK.out _ _ (Zb hHeld a1) (fun hHeld=>?_);clear hK KQ;refine tkp 8 (.bool true) hHeld ?_;simp only [zq];refine tkp 9 (.bool true) hHeld ?_;simp only [zq];refine tks 10 hHeld ?_;simp only [zq];refine tks 11 hHeld ?_;simp only [zq];refine tks 12 hHeld ?_;simp only [zq];refine tks 13 hHeld ?_;simp only [zq];refine tks 14 hHeld ?_;simp only [zq];refine tks 15 hHeld ?_;simp only [zq];refine tks 16 hHeld ?_;simp only [zq];refine tks 17 hHeld ?_;simp only [zq];refine tks 18 hHeld ?_;simp only [zq];refine tks 19 hHeld ?_;simp only [zq];refine tks 20 hHeld ?_;simp only [zq];refine tks 21 hHeld ?_;simp only [zq];refine tkp 22 (.bool true) hHeld ?_;simp only [zq];refine wpAnyH_done (by kernel_rfl) ?_ _;have HQz:=Za (Zb Hb12.out (Zb hbw hHeld))
      go_wp2_with fail
      go_ret;exact ⟨by rw [HBAD.out];rfl,HQz.out⟩
   ·obtain rfl:k=n:=by omega
    have z1: ¬(k:Int)<(k:Int):=by omega
    have HTR:Hid (b=true):=HGD.out (fun i hi=>hgs i (by have:=HnE.out;omega))
    go_wp2_with fail
    go_ret;exact ⟨by rw [HTR.out];rfl,Zb Hb12.out hbw⟩
theorem Ygu (h:Rs w g vp vf room ss fr) (R:Rel7 cs [] [] ss) (W:Wf cs []) (h6:cs.length≤5000) {d:Nat} (hd:d<256) {l r:Int} (ml:mayP cs l) (mr:mayP cs r) {u:Bool} (hu:u=true↔Und (cat cs l).key (cat cs r).key (d:Int)):Kc 196 #[.pointer (some ⟨g,0,none⟩),.int .i64 (d:Int),.int .i64 l,.int .i64 r] w fun e w'=>e=.returned (.bool (fitP d (cat cs l) (cat cs r) u))∧Kb w w':=by
 obtain ⟨nl,TL,el,hTL,sl,kl⟩:=Zto W ml;obtain ⟨nr,TR,er,hTR,sr,kr⟩:=Zto W mr;have hfit:=Yhp sl sr hd hu;have fl:=Zhg W hTL h6;have fr':=Zhg W hTR h6;have HEl:Hid (∀w',Kb w w'→Kc 173 #[.pointer (some ⟨g,0,none⟩),.int .i64 l] w' (En7 w TL.ents TL.ents.length w')):=fun w' hb=>by rw [el];exact (Zec h TL nl w' hb (hTL.s R) (by omega)).mono (fun e w'' hp=>en7 hp)
 have HEr:Hid (∀w',Kb w w'→Kc 173 #[.pointer (some ⟨g,0,none⟩),.int .i64 r] w' (En7 w TR.ents TR.ents.length w')):=fun w' hb=>by rw [er];exact (Zec h TR nr w' hb (hTR.s R) (by omega)).mono (fun e w'' hp=>en7 hp)
 have HAl:Hid (Kr w 94 #[.pointer (some ⟨g,0,none⟩),.int .i64 l] (.agg (sz7 (sat ss l)).toArray)):=fun w' hb=>Zbc (h.grow hb) l
 have HAr:Hid (Kr w 94 #[.pointer (some ⟨g,0,none⟩),.int .i64 r] (.agg (sz7 (sat ss r)).toArray)):=fun w' hb=>Zbc (h.grow hb) r
 have ol:=Zbz h l;have orr:=Zbz h r;have HLX:Hid ((Tryz.prog.info? 153).map (·.size)=some (sz7 (sat ss l)).toArray.size):=by show _=_;rw [List.size_toArray,Zr _ ol.hk.1];exact Zbk
 have HLY:Hid ((Tryz.prog.info? 153).map (·.size)=some (sz7 (sat ss r)).toArray.size):=by show _=_;rw [List.size_toArray,Zr _ orr.hk.1];exact Zbk
 have HZ:=Za Zcp;have HZX:Hid ((sz7 zs7).toArray.size=(sz7 (sat ss l)).toArray.size):=by show _=_;rw [List.size_toArray,List.size_toArray,Zr _ ol.hk.1];rfl
 have HZY:Hid ((sz7 zs7).toArray.size=(sz7 (sat ss r)).toArray.size):=by show _=_;rw [List.size_toArray,List.size_toArray,Zr _ orr.hk.1];rfl
 have H1X:=Za (Zca ol);have H1Y:=Za (Zca orr);have HX0:=Za (Zbq (sat ss l) ol.hk.1).1;have HX1:=Za (Zbq (sat ss l) ol.hk.1).2.1;have HY0:=Za (Zbq (sat ss r) orr.hk.1).1;have HY1:=Za (Zbq (sat ss r) orr.hk.1).2.1;rw [(Zcc R W l).kind] at HX0;rw [(Zcc R W l).d] at HX1;rw [(Zcc R W r).kind] at HY0;rw [(Zcc R W r).d] at HY1;generalize sz7 zs7=Z at HZ HZX HZY;generalize sz7 (sat ss l)=X at HAl HLX HZX H1X HX0 HX1;generalize sz7 (sat ss r)=Y at HAr HLY HZY H1Y HY0 HY1;have hkl:((cat cs l).kind=0∧(l == 0)=true∧TL.ents.length=0)∨((cat cs l).kind=1∧(l == 0)=false∧TL.ents.length=1)∨((cat cs l).kind=2∧(l == 0)=false∧2≤TL.ents.length):=by
  rcases sl.kinds with ⟨a,rfl,c⟩ | ⟨a,b,c,_⟩ | ⟨a,b,c,_⟩
  ·exact .inl ⟨a,rfl,by rw [c];rfl⟩
  ·exact .inr (.inl ⟨a,by simp [b],c⟩)
  ·exact .inr (.inr ⟨a,by simp [b],c⟩)
 have hkr:((cat cs r).kind=0∧(r == 0)=true∧TR.ents.length=0)∨((cat cs r).kind=1∧(r == 0)=false∧TR.ents.length=1)∨((cat cs r).kind=2∧(r == 0)=false∧2≤TR.ents.length):=by
  rcases sr.kinds with ⟨a,rfl,c⟩ | ⟨a,b,c,_⟩ | ⟨a,b,c,_⟩
  ·exact .inl ⟨a,rfl,by rw [c];rfl⟩
  ·exact .inr (.inl ⟨a,by simp [b],c⟩)
  ·exact .inr (.inr ⟨a,by simp [b],c⟩)
 unfold Pre7 at hfit;generalize fitP d (cat cs l) (cat cs r) u=b at hfit ⊢;obtain ⟨dl,hdl⟩:∃x:Int,x=((cat cs l).dp:Int):=⟨_,rfl⟩;obtain ⟨dr,hdr⟩:∃x:Int,x=((cat cs r).dp:Int):=⟨_,rfl⟩;rw [← hdl] at HX1;rw [← hdr] at HY1;generalize (cat cs l).dp=dpl at hdl hfit;generalize (cat cs r).dp=dpr at hdr hfit;generalize (cat cs l).kind=kl' at hkl HX0 hfit;generalize (cat cs r).kind=kr' at hkr HY0 hfit;generalize hes:TL.ents++TR.ents=es at hfit;have HES:=Za hes;have hle:es.length=TL.ents.length+TR.ents.length:=by rw [← hes,List.length_append]
 generalize TL.ents=A at HEl HES hkl fl hle hfit;generalize TR.ents=C at HEr HES hkr fr' hle hfit;obtain ⟨n1,hn1⟩:∃n1,n1=A.length:=⟨_,rfl⟩;obtain ⟨n2,hn2'⟩:∃n2,n2=C.length:=⟨_,rfl⟩;rw [← hn1] at HEl hkl fl hle hfit;rw [← hn2'] at HEr hkr fr' hle hfit;clear h R W sl sr hTL hTR kl kr ol orr hes ml mr hu h6 el er;have F:FitH w g d l r X Y Z kl' kr' dl dr A C es n1 n2 b dpl dpr:=⟨HEl.out,HEr.out,HAl.out,HAr.out,HLX.out,HLY.out,HZ.out,HZX.out,HZY.out,H1X.out,H1Y.out,HX0.out,HX1.out,HY0.out,HY1.out,hdl,hdr,HES.out,hle,fl,fr',hfit⟩;have nb:(b=true→False)→b=false:=fun h=>by cases b with
  | false=>rfl
  | true=>exact (h rfl).elim
 have hb1:=fun h=>F.hfit.1 h
 have e1:=F.hdl;have e2:=F.hdr;rcases hkl with ⟨rfl,ql,ll⟩ | ⟨rfl,ql,ll⟩ | ⟨rfl,ql,ll⟩
 ·rcases hkr with ⟨rfl,qr,lr⟩ | ⟨rfl,qr,lr⟩ | ⟨rfl,qr,lr⟩
  ·exact Zcd F hd (nb fun h=>by have:=hb1 h;omega) (.inl ⟨rfl,rfl,ql,qr⟩)
  ·exact Zcd F hd (nb fun h=>by have:=hb1 h;omega) (.inr (.inl ⟨rfl,rfl,ql,qr⟩))
  ·by_cases x:dr=(d:Int)+1
   ·exact Zet F hd (.inr (.inr (.inr (.inl ⟨rfl,rfl,ql,qr,ll,lr,x⟩))))
   ·exact Zcd F hd (nb fun h=>by have:=(hb1 h).2.2.1 rfl;omega) (.inr (.inr (.inr (.inr (.inr (.inr (.inl ⟨rfl,rfl,ql,qr,by simp [x]⟩)))))))
 ·rcases hkr with ⟨rfl,qr,lr⟩ | ⟨rfl,qr,lr⟩ | ⟨rfl,qr,lr⟩
  ·exact Zcd F hd (nb fun h=>by have:=hb1 h;omega) (.inr (.inr (.inl ⟨rfl,rfl,ql,qr⟩)))
  ·exact Zet F hd (.inr (.inr (.inr (.inr (.inr ⟨rfl,rfl,ql,qr,ll,lr⟩)))))
  ·by_cases x:dr=(d:Int)+1
   ·exact Zet F hd (.inr (.inr (.inr (.inr (.inl ⟨rfl,rfl,ql,qr,ll,lr,x⟩)))))
   ·exact Zcd F hd (nb fun h=>by have:=(hb1 h).2.2.1 rfl;omega) (.inr (.inr (.inr (.inr (.inr (.inr (.inr (.inl ⟨rfl,rfl,ql,qr,by simp [x]⟩))))))))
 ·by_cases y:dl=(d:Int)+1
  ·rcases hkr with ⟨rfl,qr,lr⟩ | ⟨rfl,qr,lr⟩ | ⟨rfl,qr,lr⟩
   ·exact Zet F hd (.inl ⟨rfl,rfl,ql,qr,ll,lr,y⟩)
   ·exact Zet F hd (.inr (.inl ⟨rfl,rfl,ql,qr,ll,lr,y⟩))
   ·by_cases x:dr=(d:Int)+1
    ·exact Zet F hd (.inr (.inr (.inl ⟨rfl,rfl,ql,qr,ll,lr,y,x⟩)))
    ·exact Zcd F hd (nb fun h=>by have:=(hb1 h).2.2.1 rfl;omega) (.inr (.inr (.inr (.inr (.inr (.inr (.inr (.inr ⟨rfl,rfl,ql,qr,y,by simp [x]⟩))))))))
  ·have hz:b=false:=nb fun h=>by have:=(hb1 h).2.1 rfl;omega
   rcases hkr with ⟨rfl,qr,lr⟩ | ⟨rfl,qr,lr⟩ | ⟨rfl,qr,lr⟩
   ·exact Zcd F hd hz (.inr (.inr (.inr (.inl ⟨rfl,rfl,ql,qr,by simp [y]⟩))))
   ·exact Zcd F hd hz (.inr (.inr (.inr (.inr (.inl ⟨rfl,rfl,ql,qr,by simp [y]⟩)))))
   ·exact Zcd F hd hz (.inr (.inr (.inr (.inr (.inr (.inl ⟨rfl,rfl,ql,qr,by simp [y]⟩))))))
theorem Run.frlen (h:Run cs fr st cs' fr' n):fr'.length=fr.length+n:=by
 induction h with
 | done=>rfl
 | keep _ _ ih=>exact ih
 | free _ _ ih=>rw [ih,List.length_append,List.length_singleton];omega
theorem Yel (cs:Lz) (i j:Nat):cc (lessC cs i) j≤cc cs j:=by
 by_cases hi:i<cs.length
 ·unfold lessC;rw [Zem cs i j _ hi];split
  ·next e=>rw [e];exact Nat.sub_le _ _
  ·exact Nat.le_refl _
 ·unfold lessC;rw [List.set_eq_of_length_le (by omega)];exact Nat.le_refl _
theorem Zwk (cs:Lz) (i j:Nat) (hi:i<cs.length):cc (freeC cs i) j≤cc cs j:=by
 unfold freeC;rw [(Zfs _ _).cc,(Zfs _ _).cc,Zem cs i j _ hi];split
 ·exact Nat.zero_le _
 ·exact Nat.le_refl _
theorem Run.cc_le (h:Run cs fr st cs' fr' n) (j:Nat):cc cs' j≤cc cs j:=by
 induction h with
 | done=>exact Nat.le_refl _
 | keep _ _ ih=>exact Nat.le_trans ih (Yel _ _ _)
 | free hc _ ih=>exact Nat.le_trans ih (Zwk _ _ _ (Zaw (by omega)))
theorem Run.step2 (h:Run cs fr st cs' fr' n):∀rest,Wf cs (st++rest)→Step cs (st++rest) cs' rest n:=by
 induction h with
 | done cs fr=>exact fun rest h=>⟨h,rfl,fun _=>rfl,rfl,fun _ hi=>⟨hi,Core.refl _⟩⟩
 | keep hc _ ih=>
  intro rest h;have s:=Zfj (st:=_++rest) h hc;have:=s.trans (ih rest s.wf);rwa [Nat.zero_add] at this
 | @free _ _ _ _ _ _ m hc _ ih=>
  intro rest h;have s:=Zdz (st:=_++rest) h hc;simp only [List.append_assoc] at ih;have:=s.trans (ih rest s.wf);rw [Nat.add_comm 1 m] at this;exact this
theorem Rq.cell {X:Array Value} (h:Rq w S g room ss fr b5 X wr) (j:Nat):wr.cell? ⟨b5,j,none⟩=X[j]?:=by
 obtain ⟨_,_,_,_,_,h4,_⟩:=h;exact h4.cell j
theorem Zpv {w5:World} {nn nf fc c5:Nat} {fa a5:Option Addr} {X:Array Value} {q:Int} (_h:Rs w g (.slice (some ⟨b,0,none⟩) nn c) (.slice fa nf fc) room ss fr) (hb:Kb w w2) (hn:b5 ∉ rsB g (.slice (some ⟨b,0,none⟩) nn c) (.slice fa nf fc) ss) (hX:Blk w3 b5 153 X) (m3:Mod [b] w2 w3) (h4:Rs (w3.alloc (.cells #[.int .i64 q] 3)) g (.slice (some ⟨b,0,none⟩) nn c) (.slice fa nf fc) room (ss.set i zs7) fr) (l5:Lst w5 3 1 (.slice a5 (nf+1) c5) (nf+1) (nats fr++[.int .i64 q])) (g5:(w3.alloc (.cells #[.int .i64 q] 3)).grownBy w5 (Value.slice fa nf fc).ownBlock) (wh:WhereL (w3.alloc (.cells #[.int .i64 q] 3)) (.slice fa nf fc) (.slice a5 (nf+1) c5)) (hf:nf=fr.length) (hq:q=(i:Int)+1) (h6:nf+1≤65536):Rq w (rsB g (.slice (some ⟨b,0,none⟩) nn c) (.slice fa nf fc) ss) g room (ss.set i zs7) (fr++[i+1]) b5 X (w5.setCell ⟨g,3,none⟩ (.slice a5 (nf+1) c5)):=by
 subst hf hq;have b4:=Zc w3 (.cells #[.int .i64 ((i:Int)+1)] 3);have hl:Lst w5 3 1 (.slice a5 (fr.length+1) c5) (fr++[i+1]).length (nats (fr++[i+1])):=by
  rw [Zan,List.length_append,List.length_singleton];exact l5
 obtain ⟨r1,r2⟩:=h4.newF (fr':=fr++[i+1]) hl g5 rfl (by rw [List.length_append,List.length_singleton];exact h6);have hin:∀k∈g::(Value.slice fa fr.length fc).ownBlock.toList,k∈rsB g (.slice (some ⟨b,0,none⟩) nn c) (.slice fa fr.length fc) ss:=fun k hk=>by
  rcases List.mem_cons.1 hk with rfl | hk
  ·exact Zq.2 (.inl rfl)
  ·exact Zq.2 (.inr (.inr (.inl (Option.mem_toList.1 hk))))
 have hb':∀k∈[b],k∈rsB g (.slice (some ⟨b,0,none⟩) nn c) (.slice fa fr.length fc) ss:=fun k hk=>by
  obtain rfl:k=b:=by simpa using hk
  exact Zq.2 (.inr (.inl rfl))
 have m:Mod (rsB g (.slice (some ⟨b,0,none⟩) nn c) (.slice fa fr.length fc) ss) w (w5.setCell ⟨g,3,none⟩ (.slice a5 (fr.length+1) c5)):=(((Mod.of_below hb _).trans' (m3.mono hb')).trans' (Mod.of_below b4 _)).trans' (r2.mono hin);have hX4:=hX.grow b4;refine ⟨_,_,r1,m,fun k hk=>?_,hX4.mod r2 (fun e=>hn (hin _ e)),fun e=>?_⟩
 ·rcases Zq.1 hk with h1 | h1 | h1 | ⟨s,hs,h1⟩
  ·exact .inl (Zq.2 (.inl h1))
  ·exact .inl (Zq.2 (.inr (.inl h1)))
  ·rcases wh with e | ⟨k',e,hk'⟩
   ·rw [e] at h1;exact .inl (Zq.2 (.inr (.inr (.inl h1))))
   ·rw [e] at h1;injection h1 with h1;subst h1;have:=hb.size;have:=m3.size;have:=b4.size;exact .inr (by omega)
  ·rcases Zbw hs with rfl | hs
   ·cases h1
   ·exact .inl (Zq.2 (.inr (.inr (.inr ⟨s,hs,h1⟩))))
 ·rcases Zq.1 e with h1 | h1 | h1 | ⟨s,hs,h1⟩
  ·exact hn (Zq.2 (.inl h1))
  ·exact hn (Zq.2 (.inr (.inl h1)))
  ·rcases wh with e | ⟨k',e,hk'⟩
   ·rw [e] at h1;exact hn (Zq.2 (.inr (.inr (.inl h1))))
   ·rw [e] at h1;injection h1 with h1;subst h1;have:=hX4.lt;omega
  ·rcases Zbw hs with rfl | hs
   ·cases h1
   ·exact hn (Zq.2 (.inr (.inr (.inr ⟨s,hs,h1⟩))))
theorem Rq.setSd {w6:World} {b6 n6 c6:Nat} {vf6:Value} {X:Array Value} (q1:Rs w6 g (.slice (some ⟨b6,0,none⟩) n6 c6) vf6 room ss fr) (q2:Mod S w w6) (q3:New S w (rsB g (.slice (some ⟨b6,0,none⟩) n6 c6) vf6 ss)) (q4:Blk w6 b5 153 X) (q5:b5 ∉ rsB g (.slice (some ⟨b6,0,none⟩) n6 c6) vf6 ss) (k:Nat) (hk:(spAt ss k).kind≠0) (m:Nat):Rq w S g room (ss.set k { spAt ss k with sd:=m}) fr b5 X (w6.setCell ⟨b6,k * 39+38,none⟩ (.int .i64 (m:Int))).drew:=by
 have m1:Mod (rsB g (.slice (some ⟨b6,0,none⟩) n6 c6) vf6 ss) w6 (w6.setCell ⟨b6,k * 39+38,none⟩ (.int .i64 (m:Int))).drew:=(Mod.setCell _ _ _ _ (Zq.2 (.inr (.inl rfl)))).trans' (Mod.drew _ _);have hs:=Zke (g:=g) (vp:=.slice (some ⟨b6,0,none⟩) n6 c6) (vf:=vf6) (s':={ spAt ss k with sd:=m}) (Zgd hk) rfl;refine ⟨_,_,(q1.setSd k hk m).mod (Mod.drew [] _) (fun _ _ h=>by cases h),q2.trans q3 m1,fun x hx=>q3 x (hs x hx),q4.mod m1 q5,fun e=>q5 (hs _ e)⟩
def FreeC (g room n:Nat):Prop:=∀(cs cs':Lz) (i:Nat) (rest:List Nat) (ss:List Sp) (fr fr':List Nat) (w:World) (vp vf:Value),Wf cs ((i+1)::rest)→(∀j,cc cs j≤1073741824)→fr.length+noc cs≤65536→Rel7 cs ((i+1)::rest) rest ss→Rs w g vp vf room ss fr→Run cs fr [i+1] cs' fr' n→
 Kc 95 #[.pointer (some ⟨g,0,none⟩),.int .i64 ((i:Int)+1)] w fun e w'=>e=.returned (.int .i64 (n:Int))∧∃ss',Rel7 cs' rest rest ss'∧RT7 w g (rsB g vp vf ss) room ss' fr' w'
theorem Zyr (IH:FreeC g room n) {cs cs':Lz} {k:Nat} {rest:List Nat} {fr fr':List Nat} (w:Wf cs ((k+1)::rest)) (hM:∀j,cc cs j≤1073741824) (hF:fr.length+noc cs≤65536) (R:Run cs fr [k+1] cs' fr' n) (ss:List Sp) (hr:Rel7 cs ((k+1)::rest) ((k+1)::rest) ss):∃m:Nat,(spAt ss k).sd=m+1∧(spAt ss k).kind≠0∧k<ss.length∧m<1073741824∧∀(wr:World) (vp vf:Value),Rs wr g vp vf room (ss.set k { spAt ss k with sd:=m}) fr→Kc 95 #[.pointer (some ⟨g,0,none⟩),.int .i64 ((k:Int)+1)] wr fun e w'=>e=.returned (.int .i64 (n:Int))∧∃ss',Rel7 cs' rest rest ss'∧RT7 wr g (rsB g vp vf (ss.set k { spAt ss k with sd:=m})) room ss' fr' w':=by
 have hc:0<cc cs k:=by
  have:=w.le k;rw [List.count_cons_self] at this;omega
 have hk:k<ss.length:=by rw [hr.len];exact Zaw hc
 obtain ⟨m,h1,h2⟩:=hr.side hk;refine ⟨m,h1,(hr.inn w k).2 hc,hk,?_,fun wr vp vf hR=>IH cs cs' k rest _ fr fr' wr vp vf w hM hF h2 hR R⟩;have h3:=hr.sd k;have h4:=w.le k;have h5:=hM k;omega
set_option maxRecDepth 100000 in
theorem Znk (g room N:Nat) (IH:∀n,n<N→FreeC g room n):FreeC g room N:=by
 intro cs cs' i rest ss fr fr' w vp vf hW hM hF hrel h R;have hil:i<ss.length:=by
  rw [hrel.len];apply Zaw;have:=hW.le i;rw [List.count_cons_self] at this;omega
 cases R with
 | keep hc R=>
  cases R
  obtain ⟨h1,h2⟩:=hrel.less hW hc;have hb:(spAt ss i).own+(spAt ss i).sd≤1073741824:=by
   have h3:=hW.own i;have h4:=hM i;rw [List.count_cons_self] at h3;rw [hrel.own,hrel.sd];omega
  refine (Znl h i hil h2 hb).mono ?_;rintro e w' ⟨rfl,b1⟩;exact ⟨rfl,ss,h1,vp,vf,h.grow b1,Mod.of_below b1 _,New.refl _ _⟩
 | free hc R=>
  rename_i n0;obtain ⟨hrel1,hz⟩:=hrel.free hW hc;have s1:=Zdz hW hc;have hM1:∀j,cc (freeC cs i) j≤1073741824:=fun j=>Nat.le_trans (Zwk cs i j (Zaw (by omega))) (hM j)
  have hF1:(fr++[i+1]).length+noc (freeC cs i)≤65536:=by
   have:=s1.noc;rw [List.length_append,List.length_singleton];omega
  obtain ⟨cs1,fr1,n1,n2,R1,R2,hn⟩:=R.split (ne0 (ce cs i).l) (ne0 (ce cs i).r++[]) rfl;rw [List.append_nil] at R2;have s2:=R1.step2 (ne0 (ce cs i).r++rest) s1.wf;have hM2:∀j,cc cs1 j≤1073741824:=fun j=>Nat.le_trans (R1.cc_le j) (hM1 j)
  have hF2:fr1.length+noc cs1≤65536:=by
   have:=s2.noc;have:=R1.frlen;omega
  have ok:=Zch h i;have hl:=hrel.l i;have hr:=hrel.r i;have ho:(spAt ss i).own=0:=by omega
  have hs:(spAt ss i).sd=0:=by omega
  have HAT:=Za (Zbq (spAt ss i) ok.hk.1);rw [hl,hr,ho,hs,show ((0:Nat):Int)=0 from rfl] at HAT;obtain ⟨fa,fc,hvf⟩:=Zj h.frs;subst hvf;obtain ⟨b,c,hvp,-,-,-,j0,j1,hw⟩:=h.num i hil;subst hvp;have c2:=h.c2;have HR:=Za h;have HRG:=Za (h.range i hil);have HL:Hid ((Tryz.prog.info? 153).map (·.size)=some (sz7 (spAt ss i)).length):=by
   show _=_;rw [Zr _ ok.hk.1];exact Zbk
  have HL2:Hid ((Tryz.prog.info? 153).map (·.size)=some (sz7 (spAt ss i)).toArray.size):=HL.out;have HL3:Hid ((sz7 zs7).toArray.size=(sz7 (spAt ss i)).toArray.size):=by
   show (sz7 zs7).length=(sz7 (spAt ss i)).length;rw [Zr _ ok.hk.1];rfl
  have H1:=Za (Zca ok);have HZ0:=Za Zcp;have HBZ:=Za Zjn;obtain ⟨Z,hZ⟩:∃Z,Z=sz7 zs7:=⟨_,rfl⟩;have HZE:Hid (sz7 zs7=Z):=hZ.symm;have HLZ:Hid ((Tryz.prog.info? 153).map (·.size)=some Z.length):=by rw [hZ];exact Zbk
  have HZL:Hid (Z.length=39):=by rw [hZ];exact Zr zs7 Zfy
  have HZ1:Hid (∀u∈Z,u.oneCell'=true):=by rw [hZ];exact Zca Zgo
  rw [HZE.out] at HL3 HZ0 HBZ;generalize sz7 (spAt ss i)=X at HRG HL HL2 HL3 H1 HAT;obtain ⟨q,hq⟩:∃q:Int,q=(i:Int)+1:=⟨_,rfl⟩;rw [← hq];have HQ:=Za hq;have h3:q-1=(i:Int):=by rw [hq];exact Int.add_sub_cancel _ _
  have HIL:=Za hil;obtain ⟨nn,hnn⟩:∃nn,nn=ss.length:=⟨_,rfl⟩;rw [← hnn] at c2 HR j1;rw [← hnn];have HNN:=Za hnn;have hin:i<nn:=by rw [hnn];exact hil
  obtain ⟨nf,hnf⟩:∃nf,nf=fr.length:=⟨_,rfl⟩;rw [← hnf] at HR;rw [← hnf];have HNF:=Za hnf;have HFL:Hid (nf+1≤65536):=by
   rw [List.length_append,List.length_singleton] at hF1;show _≤_;omega
  have HREL:=Za hrel1;have HF1:=Za hF1;clear hrel hrel1 hz hW hM hF h ok ho hs hl hr hZ hq hil hnn hnf hF1
  by_cases l0:(ce cs i).l=0
  ·by_cases r0:(ce cs i).r=0
   ·skip
    rw [r0,show ((0:Nat):Int)=0 from rfl] at HAT;rw [r0] at R2 HREL s1 s2;rw [l0,show ((0:Nat):Int)=0 from rfl] at HAT;rw [l0] at R1 HREL s1 s2;have HWN:Hid (wrap64 (1+(n1:Int))=((n1+1:Nat):Int)):=by
     have h1:=R1.frlen;have h2:=hF2;show _=_;rw [Go.IntWalk.wrap64_in _ (by omega)];omega
    go_enter Tryz.func95,Tryz.ntmps95
    go_wp2_with (first
     |((with_reducible refine Zk 14 13 ?_);refine wpList_load_mid rfl _ _ rfl b (i * 39) rfl X _ HRG.out Tryz.underlying153 rfl HL.out ?_)
     |((with_reducible refine Zv 5 ?_);refine Zh _ rfl _ rfl _ HZ0.out ?_;intro w1 b5 hg5 hl5 B5 b1;have HB5:=Za B5;have Hg5:=Za hg5;have HB1:=Za b1;clear B5 hg5 hl5 b1)
     |((with_reducible refine Zag 5 ?_);refine Zf _ rfl _ _ _ rfl b5 _ X.toArray rfl rfl HB5.out HL2.out HL3.out (all_oneCell_toArray H1.out) ?_;intro w2 B6 g6;have e1:=B6.cell 37;have e2:=B6.cell 38;simp only [List.getElem?_toArray] at e1 e2;rw [HAT.out.2.2.2.2.2.1] at e1;rw [HAT.out.2.2.2.2.2.2] at e2;have HB2:=Za (Ze HB1.out g6 Hg5.out);have HR2:=Za (HR.out.grow HB2.out);have c22:=HR2.out.c2;have HX2:=Za B6;have HNB:Hid (b5 ∉ rsB g (.slice (some ⟨b,0,none⟩) nn c) (.slice fa nf fc) ss):=(fun e=>by have:=HR.out.lts _ e;have:=Hg5.out;omega);clear B6 g6 HB5)
     |((with_reducible refine Zgu 27 ?_);refine Zas _ rfl _ _ rfl _ (by rw [List.map_toArray];exact HBZ.out) ?_)
     |((with_reducible refine Zag 28 ?_);refine Zdf _ rfl _ _ _ rfl 153 39 nn c b (i * 39) (ss.flatMap sz7) Z rfl rfl (by have:=HR2.out.sps;rw [← HNN.out] at this;exact this) HLZ.out (by rw [HZL.out];have:=HIL.out;have:=HNN.out;omega) HZ1.out ?_;intro w3 l3 m3 s3;have HR3:=Za (HR2.out.putS i HIL.out zs7 Zgo (fun _=>rfl) ⟨[],Own.nil _ _⟩ (by rw [HZE.out];exact l3) m3);have hne5:b5 ∉ [b]:=(fun e=>HNB.out (Zq.2 (.inr (.inl (by simp at e;rw [e];rfl)))));have HX3:=Za (HX2.out.mod m3 hne5);have HM3:=Za m3;have c33:=HR3.out.c3;clear l3 m3 s3 hne5)
     |(at_builtin;have HR4:=Za (HR3.out.grow (Zc w3 (.cells #[.int .i64 q] 3)));refine Zbl _ rfl _ _ _ rfl 3 1 8 Tryz.underlying28 Zah (by omega) _ nf (nats fr) rfl (by have:=HR4.out.frs;rw [← HNF.out] at this;exact this) w3.heap.size [Value.int .i64 q] rfl (Blk.new _ _ _) rfl (by intro u hu;simp at hu;subst hu;rfl) (by have:=HFL.out;simp only [maxLen];omega) (by have:=HFL.out;omega) ?_;intro vf' w5 l5 g5 wh;obtain ⟨a5,c5,rfl⟩:=Zj l5;have HL5:=Za l5;have HG5:=Za g5;have HWH:=Za wh;have hb5:Blk w5 g 149 #[.bool true,.int .i64 (room:Int),.slice (some ⟨b,0,none⟩) nn c,.slice fa nf fc]:=HR4.out.blk.mod (S:=(Value.slice fa nf fc).ownBlock.toList) (Mod.of_grown g5 (fun k hk=>Option.mem_toList.2 hk)) (fun e=>Zm HR4.out.frs HR4.out.blk Zmx (Option.mem_toList.1 e));have c53:w5.cell? ⟨g,3,none⟩=some (.slice fa nf fc):=hb5.cell 3;have f53:=hb5.frozen 3;have HRQ:Hid (Rq w (rsB g (.slice (some ⟨b,0,none⟩) nn c) (.slice fa nf fc) ss) g room (ss.set i zs7) (fr++[i+1]) b5 X.toArray (w5.setCell ⟨g,3,none⟩ (.slice a5 (nf+1) c5))):=Zpv HR.out HB2.out HNB.out HX3.out HM3.out HR4.out HL5.out HG5.out HWH.out HNF.out HQ.out HFL.out;have e35:=HRQ.out.cell 35;have e36:=HRQ.out.cell 36;simp only [List.getElem?_toArray] at e35 e36;rw [HAT.out.2.2.2.1] at e35;rw [HAT.out.2.2.2.2.1] at e36;clear l5 g5 wh hb5))
    go_ret;cases R1
    cases R2
    have hn':n0=0:=hn;subst hn';refine ⟨rfl,ss.set i zs7,HREL.out,HRQ.out.out⟩
   ·skip
    obtain ⟨k',hk'⟩:∃k,(ce cs i).r=k+1:=⟨(ce cs i).r-1,by omega⟩;rw [hk',show ((k'+1:Nat):Int)=(k':Int)+1 from rfl] at HAT;rw [hk'] at R2 HREL s1 s2;have HSIDE:Hid (∀ss3,Rel7 cs1 ((k'+1)::rest) ((k'+1)::rest) ss3→∃m:Nat,(spAt ss3 k').sd=m+1∧(spAt ss3 k').kind≠0∧k'<ss3.length∧m<1073741824∧∀(wr:World) (vp vf:Value),Rs wr g vp vf room (ss3.set k' { spAt ss3 k' with sd:=m}) fr1→Kc 95 #[.pointer (some ⟨g,0,none⟩),.int .i64 ((k':Int)+1)] wr fun e w'=>e=.returned (.int .i64 (n2:Int))∧∃ss',Rel7 cs' rest rest ss'∧RT7 wr g (rsB g vp vf (ss3.set k' { spAt ss3 k' with sd:=m})) room ss' fr' w'):=fun ss3 h=>Zyr (IH n2 (by omega)) s2.wf hM2 hF2 R2 ss3 h
    have hb1:n1+n2≤65536:=by
     have h1:=R1.frlen;have h2:=R2.frlen;have h3:=(R2.step2 rest s2.wf).noc;omega
    obtain ⟨N1,hN1⟩:∃N1,N1=n1+1:=⟨_,rfl⟩;obtain ⟨N2,hN2⟩:∃N2,N2=N1+n2:=⟨_,rfl⟩;have hn1:n1=0:=by
     have h1:=R1;rw [l0] at h1;cases h1
     rfl
    have hwn2:wrap64 (1+(n2:Int))=(N2:Int):=by
     rw [Go.IntWalk.wrap64_in _ (by omega)];omega
    have HN0:Hid (n0+1=N2):=by
     show _=_;omega
    clear hb1 hN1 hN2;rw [l0,show ((0:Nat):Int)=0 from rfl] at HAT;rw [l0] at R1 HREL s1 s2;cases R1
    obtain ⟨m,sd6,kd6,kl6,mm6,call6⟩:=HSIDE.out _ HREL.out;have SD6:=Za sd6;have KD6:=Za kd6;have KL6:=Za kl6;have MM6:=Za mm6;have CALL6:=Za call6;have LEN6:Hid ((ss.set i zs7).length=ss.length):=List.length_set ..;clear sd6 kd6 kl6 mm6 call6;go_enter Tryz.func95,Tryz.ntmps95
    go_wp2_with (first
     |((with_reducible refine Zk 14 13 ?_);refine wpList_load_mid rfl _ _ rfl b (i * 39) rfl X _ HRG.out Tryz.underlying153 rfl HL.out ?_)
     |((with_reducible refine Zv 5 ?_);refine Zh _ rfl _ rfl _ HZ0.out ?_;intro w1 b5 hg5 hl5 B5 b1;have HB5:=Za B5;have Hg5:=Za hg5;have HB1:=Za b1;clear B5 hg5 hl5 b1)
     |((with_reducible refine Zag 5 ?_);refine Zf _ rfl _ _ _ rfl b5 _ X.toArray rfl rfl HB5.out HL2.out HL3.out (all_oneCell_toArray H1.out) ?_;intro w2 B6 g6;have e1:=B6.cell 37;have e2:=B6.cell 38;simp only [List.getElem?_toArray] at e1 e2;rw [HAT.out.2.2.2.2.2.1] at e1;rw [HAT.out.2.2.2.2.2.2] at e2;have HB2:=Za (Ze HB1.out g6 Hg5.out);have HR2:=Za (HR.out.grow HB2.out);have c22:=HR2.out.c2;have HX2:=Za B6;have HNB:Hid (b5 ∉ rsB g (.slice (some ⟨b,0,none⟩) nn c) (.slice fa nf fc) ss):=(fun e=>by have:=HR.out.lts _ e;have:=Hg5.out;omega);clear B6 g6 HB5)
     |((with_reducible refine Zgu 27 ?_);refine Zas _ rfl _ _ rfl _ (by rw [List.map_toArray];exact HBZ.out) ?_)
     |((with_reducible refine Zag 28 ?_);refine Zdf _ rfl _ _ _ rfl 153 39 nn c b (i * 39) (ss.flatMap sz7) Z rfl rfl (by have:=HR2.out.sps;rw [← HNN.out] at this;exact this) HLZ.out (by rw [HZL.out];have:=HIL.out;have:=HNN.out;omega) HZ1.out ?_;intro w3 l3 m3 s3;have HR3:=Za (HR2.out.putS i HIL.out zs7 Zgo (fun _=>rfl) ⟨[],Own.nil _ _⟩ (by rw [HZE.out];exact l3) m3);have hne5:b5 ∉ [b]:=(fun e=>HNB.out (Zq.2 (.inr (.inl (by simp at e;rw [e];rfl)))));have HX3:=Za (HX2.out.mod m3 hne5);have HM3:=Za m3;have c33:=HR3.out.c3;clear l3 m3 s3 hne5)
     |(at_builtin;have HR4:=Za (HR3.out.grow (Zc w3 (.cells #[.int .i64 q] 3)));refine Zbl _ rfl _ _ _ rfl 3 1 8 Tryz.underlying28 Zah (by omega) _ nf (nats fr) rfl (by have:=HR4.out.frs;rw [← HNF.out] at this;exact this) w3.heap.size [Value.int .i64 q] rfl (Blk.new _ _ _) rfl (by intro u hu;simp at hu;subst hu;rfl) (by have:=HFL.out;simp only [maxLen];omega) (by have:=HFL.out;omega) ?_;intro vf' w5 l5 g5 wh;obtain ⟨a5,c5,rfl⟩:=Zj l5;have HL5:=Za l5;have HG5:=Za g5;have HWH:=Za wh;have hb5:Blk w5 g 149 #[.bool true,.int .i64 (room:Int),.slice (some ⟨b,0,none⟩) nn c,.slice fa nf fc]:=HR4.out.blk.mod (S:=(Value.slice fa nf fc).ownBlock.toList) (Mod.of_grown g5 (fun k hk=>Option.mem_toList.2 hk)) (fun e=>Zm HR4.out.frs HR4.out.blk Zmx (Option.mem_toList.1 e));have c53:w5.cell? ⟨g,3,none⟩=some (.slice fa nf fc):=hb5.cell 3;have f53:=hb5.frozen 3;have HRQ:Hid (Rq w (rsB g (.slice (some ⟨b,0,none⟩) nn c) (.slice fa nf fc) ss) g room (ss.set i zs7) (fr++[i+1]) b5 X.toArray (w5.setCell ⟨g,3,none⟩ (.slice a5 (nf+1) c5))):=Zpv HR.out HB2.out HNB.out HX3.out HM3.out HR4.out HL5.out HG5.out HWH.out HNF.out HQ.out HFL.out;have e35:=HRQ.out.cell 35;have e36:=HRQ.out.cell 36;simp only [List.getElem?_toArray] at e35 e36;rw [HAT.out.2.2.2.1] at e35;rw [HAT.out.2.2.2.2.1] at e36;clear l5 g5 wh hb5))
    generalize w5.setCell ⟨g,3,none⟩ (.slice a5 (nf+1) c5)=w6 at *;clear e35 e36 e1 e2 c22 c33 c53 f53;obtain ⟨vp6,vf6,q16,q26,q36,q46,q56⟩:=HRQ.out;obtain ⟨b6,c6,hv6,-,k26,k36,j06,j16,hw6⟩:=q16.num k' KL6.out;subst hv6;rw [SD6.out] at k26;have HQQ6:=Za (Rq.setSd q16 q26 q36 q46 q56 k' KD6.out m);have c26:=q16.c2;have f36:=k36 (k' * 39+38);have e56:=HRQ.out.cell 36;simp only [List.getElem?_toArray] at e56;rw [HAT.out.2.2.2.2.1] at e56;have hm6:wrap64 (m:Int)=(m:Int):=Go.IntWalk.wrap64_in _ (by have:=MM6.out;omega);have hv6:IntKind.i64.wrap (k':Int)=(k':Int):=(Go.IntWalk.i64_left _).trans hw6;have hu6:IntKind.i64.wrap (m:Int)=(m:Int):=(Go.IntWalk.i64_left _).trans hm6;have hkl6:k'<ss.length:=by have:=KL6.out;rwa [LEN6.out] at this
    have hkm6: ¬ss.length≤k':=Nat.not_le.2 hkl6;clear q16 q26 q36 q46 q56 k36;refine Zy (S:=fun w'=>w'.cell? ⟨g,2,none⟩=some (.slice (some ⟨b6,0,none⟩) (ss.set i zs7).length c6)∧w'.cell? ⟨b5,36,none⟩=some (.int .i64 ((k':Int)+1))∧w'.cell? ⟨b6,k' * 39+38,none⟩=some (.int .i64 ((m+1:Nat):Int))) 13 (by kernel_rfl) (⟨c26,e56,k26⟩) (fun hHeld=>?_);refine tlp 0 (.pointer (some ⟨g,0,none⟩)) hHeld ?_;simp only [zq];refine tlp 1 (.pointer (some ⟨g,0,none⟩)) hHeld ?_;simp only [zq];refine tlp 2 (.pointer (some ⟨g,2,none⟩)) hHeld ?_;simp only [zq];refine tlg 3 (.slice (some ⟨b6,0,none⟩) (ss.set i zs7).length c6) rfl (Or.inl ⟨by rfl,fun w hS=>by (have z1:=hS.1;go_simp)⟩) hHeld ?_;simp only [zq];refine tlp 4 (.pointer (some ⟨b5,36,none⟩)) hHeld ?_;simp only [zq];refine tlg 5 (.int .i64 ((k':Int)+1)) rfl (Or.inl ⟨by rfl,fun w hS=>by (have z1:=hS.2.1;go_simp)⟩) hHeld ?_;simp only [zq];refine tlg 6 (.int .i64 (k':Int)) rfl (Or.inl ⟨by rfl,fun w hS=>by (go_simp;skip)⟩) hHeld ?_;simp only [zq];refine tlp 7 (.pointer (some ⟨b6,k' * 39,none⟩)) hHeld ?_;simp only [zq];refine tlp 8 (.pointer (some ⟨b6,k' * 39+38,none⟩)) hHeld ?_;simp only [zq];refine tlg 9 (.int .i64 ((m+1:Nat):Int)) rfl (Or.inl ⟨by rfl,fun w hS=>by (have z1:=hS.2.2;go_simp)⟩) hHeld ?_;simp only [zq];refine tlp 10 (.int .i64 (m:Int)) hHeld ?_;simp only [zq];refine tlp 11 (.pointer (some ⟨b6,k' * 39,none⟩)) hHeld ?_;simp only [zq];refine tlp 12 (.pointer (some ⟨b6,k' * 39+38,none⟩)) hHeld ?_;simp only [zq];refine Zam rfl (by kernel_rfl) (by kernel_rfl) (fun KQ hK=>?_);go_simp
    skip
    refine hK.out _ _ ?_;clear hK KQ;clear hHeld;generalize (w6.setCell ⟨b6,k' * 39+38,none⟩ (.int .i64 (m:Int))).drew=w7 at *;have e57:=HQQ6.out.cell 36;simp only [List.getElem?_toArray] at e57;rw [HAT.out.2.2.2.2.1] at e57;clear c26 e56 k26 f36
    go_wp2_with (go_at_call 95;refine (HQQ6.out.use (fun vp vf h=>CALL6.out _ vp vf h)).mono ?_;rintro e w8 ⟨rfl,ss3,rel3,rq3⟩;have REL3:=Za rel3;have RQ3:=Za rq3;clear rel3 rq3)
    go_ret;refine ⟨by rw [HN0.out,← hwn2];rfl,ss3,REL3.out,RQ3.out.out⟩
  ·by_cases r0:(ce cs i).r=0
   ·skip
    rw [r0,show ((0:Nat):Int)=0 from rfl] at HAT;rw [r0] at R2 HREL s1 s2;obtain ⟨k,hk⟩:∃k,(ce cs i).l=k+1:=⟨(ce cs i).l-1,by omega⟩;rw [hk,show ((k+1:Nat):Int)=(k:Int)+1 from rfl] at HAT;rw [hk] at R1 HREL s1 s2;obtain ⟨m,sd6,kd6,kl6,mm6,call6⟩:=Zyr (IH n1 (by omega)) s1.wf hM1 HF1.out R1 _ HREL.out;have SD6:=Za sd6;have KD6:=Za kd6;have KL6:=Za kl6;have MM6:=Za mm6;have CALL6:=Za call6;have LEN6:Hid ((ss.set i zs7).length=ss.length):=List.length_set ..;clear sd6 kd6 kl6 mm6 call6;have HWN:Hid (wrap64 (1+(n1:Int))=((n1+1:Nat):Int)):=by
     have h1:=R1.frlen;have h2:=hF2;show _=_;rw [Go.IntWalk.wrap64_in _ (by omega)];omega
    go_enter Tryz.func95,Tryz.ntmps95
    go_wp2_with (first
     |((with_reducible refine Zk 14 13 ?_);refine wpList_load_mid rfl _ _ rfl b (i * 39) rfl X _ HRG.out Tryz.underlying153 rfl HL.out ?_)
     |((with_reducible refine Zv 5 ?_);refine Zh _ rfl _ rfl _ HZ0.out ?_;intro w1 b5 hg5 hl5 B5 b1;have HB5:=Za B5;have Hg5:=Za hg5;have HB1:=Za b1;clear B5 hg5 hl5 b1)
     |((with_reducible refine Zag 5 ?_);refine Zf _ rfl _ _ _ rfl b5 _ X.toArray rfl rfl HB5.out HL2.out HL3.out (all_oneCell_toArray H1.out) ?_;intro w2 B6 g6;have e1:=B6.cell 37;have e2:=B6.cell 38;simp only [List.getElem?_toArray] at e1 e2;rw [HAT.out.2.2.2.2.2.1] at e1;rw [HAT.out.2.2.2.2.2.2] at e2;have HB2:=Za (Ze HB1.out g6 Hg5.out);have HR2:=Za (HR.out.grow HB2.out);have c22:=HR2.out.c2;have HX2:=Za B6;have HNB:Hid (b5 ∉ rsB g (.slice (some ⟨b,0,none⟩) nn c) (.slice fa nf fc) ss):=(fun e=>by have:=HR.out.lts _ e;have:=Hg5.out;omega);clear B6 g6 HB5)
     |((with_reducible refine Zgu 27 ?_);refine Zas _ rfl _ _ rfl _ (by rw [List.map_toArray];exact HBZ.out) ?_)
     |((with_reducible refine Zag 28 ?_);refine Zdf _ rfl _ _ _ rfl 153 39 nn c b (i * 39) (ss.flatMap sz7) Z rfl rfl (by have:=HR2.out.sps;rw [← HNN.out] at this;exact this) HLZ.out (by rw [HZL.out];have:=HIL.out;have:=HNN.out;omega) HZ1.out ?_;intro w3 l3 m3 s3;have HR3:=Za (HR2.out.putS i HIL.out zs7 Zgo (fun _=>rfl) ⟨[],Own.nil _ _⟩ (by rw [HZE.out];exact l3) m3);have hne5:b5 ∉ [b]:=(fun e=>HNB.out (Zq.2 (.inr (.inl (by simp at e;rw [e];rfl)))));have HX3:=Za (HX2.out.mod m3 hne5);have HM3:=Za m3;have c33:=HR3.out.c3;clear l3 m3 s3 hne5)
     |(at_builtin;have HR4:=Za (HR3.out.grow (Zc w3 (.cells #[.int .i64 q] 3)));refine Zbl _ rfl _ _ _ rfl 3 1 8 Tryz.underlying28 Zah (by omega) _ nf (nats fr) rfl (by have:=HR4.out.frs;rw [← HNF.out] at this;exact this) w3.heap.size [Value.int .i64 q] rfl (Blk.new _ _ _) rfl (by intro u hu;simp at hu;subst hu;rfl) (by have:=HFL.out;simp only [maxLen];omega) (by have:=HFL.out;omega) ?_;intro vf' w5 l5 g5 wh;obtain ⟨a5,c5,rfl⟩:=Zj l5;have HL5:=Za l5;have HG5:=Za g5;have HWH:=Za wh;have hb5:Blk w5 g 149 #[.bool true,.int .i64 (room:Int),.slice (some ⟨b,0,none⟩) nn c,.slice fa nf fc]:=HR4.out.blk.mod (S:=(Value.slice fa nf fc).ownBlock.toList) (Mod.of_grown g5 (fun k hk=>Option.mem_toList.2 hk)) (fun e=>Zm HR4.out.frs HR4.out.blk Zmx (Option.mem_toList.1 e));have c53:w5.cell? ⟨g,3,none⟩=some (.slice fa nf fc):=hb5.cell 3;have f53:=hb5.frozen 3;have HRQ:Hid (Rq w (rsB g (.slice (some ⟨b,0,none⟩) nn c) (.slice fa nf fc) ss) g room (ss.set i zs7) (fr++[i+1]) b5 X.toArray (w5.setCell ⟨g,3,none⟩ (.slice a5 (nf+1) c5))):=Zpv HR.out HB2.out HNB.out HX3.out HM3.out HR4.out HL5.out HG5.out HWH.out HNF.out HQ.out HFL.out;have e35:=HRQ.out.cell 35;have e36:=HRQ.out.cell 36;simp only [List.getElem?_toArray] at e35 e36;rw [HAT.out.2.2.2.1] at e35;rw [HAT.out.2.2.2.2.1] at e36;clear l5 g5 wh hb5))
    generalize w5.setCell ⟨g,3,none⟩ (.slice a5 (nf+1) c5)=w6 at *;clear e35 e36 e1 e2 c22 c33 c53 f53;obtain ⟨vp6,vf6,q16,q26,q36,q46,q56⟩:=HRQ.out;obtain ⟨b6,c6,hv6,-,k26,k36,j06,j16,hw6⟩:=q16.num k KL6.out;subst hv6;rw [SD6.out] at k26;have HQQ6:=Za (Rq.setSd q16 q26 q36 q46 q56 k KD6.out m);have c26:=q16.c2;have f36:=k36 (k * 39+38);have e56:=HRQ.out.cell 35;simp only [List.getElem?_toArray] at e56;rw [HAT.out.2.2.2.1] at e56;have hm6:wrap64 (m:Int)=(m:Int):=Go.IntWalk.wrap64_in _ (by have:=MM6.out;omega);have hv6:IntKind.i64.wrap (k:Int)=(k:Int):=(Go.IntWalk.i64_left _).trans hw6;have hu6:IntKind.i64.wrap (m:Int)=(m:Int):=(Go.IntWalk.i64_left _).trans hm6;have hkl6:k<ss.length:=by have:=KL6.out;rwa [LEN6.out] at this
    have hkm6: ¬ss.length≤k:=Nat.not_le.2 hkl6;clear q16 q26 q36 q46 q56 k36;refine Zy (S:=fun w'=>w'.cell? ⟨g,2,none⟩=some (.slice (some ⟨b6,0,none⟩) (ss.set i zs7).length c6)∧w'.cell? ⟨b5,35,none⟩=some (.int .i64 ((k:Int)+1))∧w'.cell? ⟨b6,k * 39+38,none⟩=some (.int .i64 ((m+1:Nat):Int))) 13 (by kernel_rfl) (⟨c26,e56,k26⟩) (fun hHeld=>?_);refine tlp 0 (.pointer (some ⟨g,0,none⟩)) hHeld ?_;simp only [zq];refine tlp 1 (.pointer (some ⟨g,0,none⟩)) hHeld ?_;simp only [zq];refine tlp 2 (.pointer (some ⟨g,2,none⟩)) hHeld ?_;simp only [zq];refine tlg 3 (.slice (some ⟨b6,0,none⟩) (ss.set i zs7).length c6) rfl (Or.inl ⟨by rfl,fun w hS=>by (have z1:=hS.1;go_simp)⟩) hHeld ?_;simp only [zq];refine tlp 4 (.pointer (some ⟨b5,35,none⟩)) hHeld ?_;simp only [zq];refine tlg 5 (.int .i64 ((k:Int)+1)) rfl (Or.inl ⟨by rfl,fun w hS=>by (have z1:=hS.2.1;go_simp)⟩) hHeld ?_;simp only [zq];refine tlg 6 (.int .i64 (k:Int)) rfl (Or.inl ⟨by rfl,fun w hS=>by (go_simp;skip)⟩) hHeld ?_;simp only [zq];refine tlp 7 (.pointer (some ⟨b6,k * 39,none⟩)) hHeld ?_;simp only [zq];refine tlp 8 (.pointer (some ⟨b6,k * 39+38,none⟩)) hHeld ?_;simp only [zq];refine tlg 9 (.int .i64 ((m+1:Nat):Int)) rfl (Or.inl ⟨by rfl,fun w hS=>by (have z1:=hS.2.2;go_simp)⟩) hHeld ?_;simp only [zq];refine tlp 10 (.int .i64 (m:Int)) hHeld ?_;simp only [zq];refine tlp 11 (.pointer (some ⟨b6,k * 39,none⟩)) hHeld ?_;simp only [zq];refine tlp 12 (.pointer (some ⟨b6,k * 39+38,none⟩)) hHeld ?_;simp only [zq];refine Zam rfl (by kernel_rfl) (by kernel_rfl) (fun KQ hK=>?_);go_simp
    skip
    refine hK.out _ _ ?_;clear hK KQ;clear hHeld;generalize (w6.setCell ⟨b6,k * 39+38,none⟩ (.int .i64 (m:Int))).drew=w7 at *;have e57:=HQQ6.out.cell 35;simp only [List.getElem?_toArray] at e57;rw [HAT.out.2.2.2.1] at e57;clear c26 e56 k26 f36
    go_wp2_with (go_at_call 95;refine (HQQ6.out.use (fun vp vf h=>CALL6.out _ vp vf h)).mono ?_;rintro e w8 ⟨rfl,ss3,rel3,rq3⟩;have REL3:=Za rel3;have e58:=rq3.cell 36;simp only [List.getElem?_toArray] at e58;rw [HAT.out.2.2.2.2.1] at e58;have RQ3:=Za rq3;clear rel3 rq3)
    go_ret;cases R2
    have hn':n0=n1:=hn;subst hn';refine ⟨by rw [HWN.out];rfl,ss3,REL3.out,RQ3.out.out⟩
   ·skip
    obtain ⟨k',hk'⟩:∃k,(ce cs i).r=k+1:=⟨(ce cs i).r-1,by omega⟩;rw [hk',show ((k'+1:Nat):Int)=(k':Int)+1 from rfl] at HAT;rw [hk'] at R2 HREL s1 s2;have HSIDE:Hid (∀ss3,Rel7 cs1 ((k'+1)::rest) ((k'+1)::rest) ss3→∃m:Nat,(spAt ss3 k').sd=m+1∧(spAt ss3 k').kind≠0∧k'<ss3.length∧m<1073741824∧∀(wr:World) (vp vf:Value),Rs wr g vp vf room (ss3.set k' { spAt ss3 k' with sd:=m}) fr1→Kc 95 #[.pointer (some ⟨g,0,none⟩),.int .i64 ((k':Int)+1)] wr fun e w'=>e=.returned (.int .i64 (n2:Int))∧∃ss',Rel7 cs' rest rest ss'∧RT7 wr g (rsB g vp vf (ss3.set k' { spAt ss3 k' with sd:=m})) room ss' fr' w'):=fun ss3 h=>Zyr (IH n2 (by omega)) s2.wf hM2 hF2 R2 ss3 h
    have hb1:n1+n2≤65536:=by
     have h1:=R1.frlen;have h2:=R2.frlen;have h3:=(R2.step2 rest s2.wf).noc;omega
    obtain ⟨N1,hN1⟩:∃N1,N1=n1+1:=⟨_,rfl⟩;obtain ⟨N2,hN2⟩:∃N2,N2=N1+n2:=⟨_,rfl⟩;have hwn1:wrap64 (1+(n1:Int))=(N1:Int):=by
     rw [Go.IntWalk.wrap64_in _ (by omega)];omega
    have hwn2:wrap64 ((N1:Int)+(n2:Int))=(N2:Int):=by
     rw [Go.IntWalk.wrap64_in _ (by omega)];omega
    have HN0:Hid (n0+1=N2):=by
     show _=_;omega
    clear hb1 hN1 hN2;obtain ⟨k,hk⟩:∃k,(ce cs i).l=k+1:=⟨(ce cs i).l-1,by omega⟩;rw [hk,show ((k+1:Nat):Int)=(k:Int)+1 from rfl] at HAT;rw [hk] at R1 HREL s1 s2;obtain ⟨m,sd6,kd6,kl6,mm6,call6⟩:=Zyr (IH n1 (by omega)) s1.wf hM1 HF1.out R1 _ HREL.out;have SD6:=Za sd6;have KD6:=Za kd6;have KL6:=Za kl6;have MM6:=Za mm6;have CALL6:=Za call6;have LEN6:Hid ((ss.set i zs7).length=ss.length):=List.length_set ..;clear sd6 kd6 kl6 mm6 call6;go_enter Tryz.func95,Tryz.ntmps95
    go_wp2_with (first
     |((with_reducible refine Zk 14 13 ?_);refine wpList_load_mid rfl _ _ rfl b (i * 39) rfl X _ HRG.out Tryz.underlying153 rfl HL.out ?_)
     |((with_reducible refine Zv 5 ?_);refine Zh _ rfl _ rfl _ HZ0.out ?_;intro w1 b5 hg5 hl5 B5 b1;have HB5:=Za B5;have Hg5:=Za hg5;have HB1:=Za b1;clear B5 hg5 hl5 b1)
     |((with_reducible refine Zag 5 ?_);refine Zf _ rfl _ _ _ rfl b5 _ X.toArray rfl rfl HB5.out HL2.out HL3.out (all_oneCell_toArray H1.out) ?_;intro w2 B6 g6;have e1:=B6.cell 37;have e2:=B6.cell 38;simp only [List.getElem?_toArray] at e1 e2;rw [HAT.out.2.2.2.2.2.1] at e1;rw [HAT.out.2.2.2.2.2.2] at e2;have HB2:=Za (Ze HB1.out g6 Hg5.out);have HR2:=Za (HR.out.grow HB2.out);have c22:=HR2.out.c2;have HX2:=Za B6;have HNB:Hid (b5 ∉ rsB g (.slice (some ⟨b,0,none⟩) nn c) (.slice fa nf fc) ss):=(fun e=>by have:=HR.out.lts _ e;have:=Hg5.out;omega);clear B6 g6 HB5)
     |((with_reducible refine Zgu 27 ?_);refine Zas _ rfl _ _ rfl _ (by rw [List.map_toArray];exact HBZ.out) ?_)
     |((with_reducible refine Zag 28 ?_);refine Zdf _ rfl _ _ _ rfl 153 39 nn c b (i * 39) (ss.flatMap sz7) Z rfl rfl (by have:=HR2.out.sps;rw [← HNN.out] at this;exact this) HLZ.out (by rw [HZL.out];have:=HIL.out;have:=HNN.out;omega) HZ1.out ?_;intro w3 l3 m3 s3;have HR3:=Za (HR2.out.putS i HIL.out zs7 Zgo (fun _=>rfl) ⟨[],Own.nil _ _⟩ (by rw [HZE.out];exact l3) m3);have hne5:b5 ∉ [b]:=(fun e=>HNB.out (Zq.2 (.inr (.inl (by simp at e;rw [e];rfl)))));have HX3:=Za (HX2.out.mod m3 hne5);have HM3:=Za m3;have c33:=HR3.out.c3;clear l3 m3 s3 hne5)
     |(at_builtin;have HR4:=Za (HR3.out.grow (Zc w3 (.cells #[.int .i64 q] 3)));refine Zbl _ rfl _ _ _ rfl 3 1 8 Tryz.underlying28 Zah (by omega) _ nf (nats fr) rfl (by have:=HR4.out.frs;rw [← HNF.out] at this;exact this) w3.heap.size [Value.int .i64 q] rfl (Blk.new _ _ _) rfl (by intro u hu;simp at hu;subst hu;rfl) (by have:=HFL.out;simp only [maxLen];omega) (by have:=HFL.out;omega) ?_;intro vf' w5 l5 g5 wh;obtain ⟨a5,c5,rfl⟩:=Zj l5;have HL5:=Za l5;have HG5:=Za g5;have HWH:=Za wh;have hb5:Blk w5 g 149 #[.bool true,.int .i64 (room:Int),.slice (some ⟨b,0,none⟩) nn c,.slice fa nf fc]:=HR4.out.blk.mod (S:=(Value.slice fa nf fc).ownBlock.toList) (Mod.of_grown g5 (fun k hk=>Option.mem_toList.2 hk)) (fun e=>Zm HR4.out.frs HR4.out.blk Zmx (Option.mem_toList.1 e));have c53:w5.cell? ⟨g,3,none⟩=some (.slice fa nf fc):=hb5.cell 3;have f53:=hb5.frozen 3;have HRQ:Hid (Rq w (rsB g (.slice (some ⟨b,0,none⟩) nn c) (.slice fa nf fc) ss) g room (ss.set i zs7) (fr++[i+1]) b5 X.toArray (w5.setCell ⟨g,3,none⟩ (.slice a5 (nf+1) c5))):=Zpv HR.out HB2.out HNB.out HX3.out HM3.out HR4.out HL5.out HG5.out HWH.out HNF.out HQ.out HFL.out;have e35:=HRQ.out.cell 35;have e36:=HRQ.out.cell 36;simp only [List.getElem?_toArray] at e35 e36;rw [HAT.out.2.2.2.1] at e35;rw [HAT.out.2.2.2.2.1] at e36;clear l5 g5 wh hb5))
    generalize w5.setCell ⟨g,3,none⟩ (.slice a5 (nf+1) c5)=w6 at *;clear e35 e36 e1 e2 c22 c33 c53 f53;obtain ⟨vp6,vf6,q16,q26,q36,q46,q56⟩:=HRQ.out;obtain ⟨b6,c6,hv6,-,k26,k36,j06,j16,hw6⟩:=q16.num k KL6.out;subst hv6;rw [SD6.out] at k26;have HQQ6:=Za (Rq.setSd q16 q26 q36 q46 q56 k KD6.out m);have c26:=q16.c2;have f36:=k36 (k * 39+38);have e56:=HRQ.out.cell 35;simp only [List.getElem?_toArray] at e56;rw [HAT.out.2.2.2.1] at e56;have hm6:wrap64 (m:Int)=(m:Int):=Go.IntWalk.wrap64_in _ (by have:=MM6.out;omega);have hv6:IntKind.i64.wrap (k:Int)=(k:Int):=(Go.IntWalk.i64_left _).trans hw6;have hu6:IntKind.i64.wrap (m:Int)=(m:Int):=(Go.IntWalk.i64_left _).trans hm6;have hkl6:k<ss.length:=by have:=KL6.out;rwa [LEN6.out] at this
    have hkm6: ¬ss.length≤k:=Nat.not_le.2 hkl6;clear q16 q26 q36 q46 q56 k36;refine Zy (S:=fun w'=>w'.cell? ⟨g,2,none⟩=some (.slice (some ⟨b6,0,none⟩) (ss.set i zs7).length c6)∧w'.cell? ⟨b5,35,none⟩=some (.int .i64 ((k:Int)+1))∧w'.cell? ⟨b6,k * 39+38,none⟩=some (.int .i64 ((m+1:Nat):Int))) 13 (by kernel_rfl) (⟨c26,e56,k26⟩) (fun hHeld=>?_);refine tlp 0 (.pointer (some ⟨g,0,none⟩)) hHeld ?_;simp only [zq];refine tlp 1 (.pointer (some ⟨g,0,none⟩)) hHeld ?_;simp only [zq];refine tlp 2 (.pointer (some ⟨g,2,none⟩)) hHeld ?_;simp only [zq];refine tlg 3 (.slice (some ⟨b6,0,none⟩) (ss.set i zs7).length c6) rfl (Or.inl ⟨by rfl,fun w hS=>by (have z1:=hS.1;go_simp)⟩) hHeld ?_;simp only [zq];refine tlp 4 (.pointer (some ⟨b5,35,none⟩)) hHeld ?_;simp only [zq];refine tlg 5 (.int .i64 ((k:Int)+1)) rfl (Or.inl ⟨by rfl,fun w hS=>by (have z1:=hS.2.1;go_simp)⟩) hHeld ?_;simp only [zq];refine tlg 6 (.int .i64 (k:Int)) rfl (Or.inl ⟨by rfl,fun w hS=>by (go_simp;skip)⟩) hHeld ?_;simp only [zq];refine tlp 7 (.pointer (some ⟨b6,k * 39,none⟩)) hHeld ?_;simp only [zq];refine tlp 8 (.pointer (some ⟨b6,k * 39+38,none⟩)) hHeld ?_;simp only [zq];refine tlg 9 (.int .i64 ((m+1:Nat):Int)) rfl (Or.inl ⟨by rfl,fun w hS=>by (have z1:=hS.2.2;go_simp)⟩) hHeld ?_;simp only [zq];refine tlp 10 (.int .i64 (m:Int)) hHeld ?_;simp only [zq];refine tlp 11 (.pointer (some ⟨b6,k * 39,none⟩)) hHeld ?_;simp only [zq];refine tlp 12 (.pointer (some ⟨b6,k * 39+38,none⟩)) hHeld ?_;simp only [zq];refine Zam rfl (by kernel_rfl) (by kernel_rfl) (fun KQ hK=>?_);go_simp
    skip
    refine hK.out _ _ ?_;clear hK KQ;clear hHeld;generalize (w6.setCell ⟨b6,k * 39+38,none⟩ (.int .i64 (m:Int))).drew=w7 at *;have e57:=HQQ6.out.cell 35;simp only [List.getElem?_toArray] at e57;rw [HAT.out.2.2.2.1] at e57;clear c26 e56 k26 f36
    go_wp2_with (go_at_call 95;refine (HQQ6.out.use (fun vp vf h=>CALL6.out _ vp vf h)).mono ?_;rintro e w8 ⟨rfl,ss3,rel3,rq3⟩;have REL3:=Za rel3;have e58:=rq3.cell 36;simp only [List.getElem?_toArray] at e58;rw [HAT.out.2.2.2.2.1] at e58;have RQ3:=Za rq3;clear rel3 rq3)
    obtain ⟨m',sd9,kd9,kl9,mm9,call9⟩:=HSIDE.out ss3 REL3.out;have SD9:=Za sd9;have KD9:=Za kd9;have KL9:=Za kl9;have MM9:=Za mm9;have CALL9:=Za call9;have LEN9:Hid (ss3.length=ss3.length):=rfl;clear sd9 kd9 kl9 mm9 call9 e58;obtain ⟨vp9,vf9,q19,q29,q39,q49,q59⟩:=RQ3.out;obtain ⟨b9,c9,hv9,-,k29,k39,j09,j19,hw9⟩:=q19.num k' KL9.out;subst hv9;rw [SD9.out] at k29;have HQQ9:=Za (Rq.setSd q19 q29 q39 q49 q59 k' KD9.out m');have c29:=q19.c2;have f39:=k39 (k' * 39+38);have e59:=RQ3.out.cell 36;simp only [List.getElem?_toArray] at e59;rw [HAT.out.2.2.2.2.1] at e59;have hm9:wrap64 (m':Int)=(m':Int):=Go.IntWalk.wrap64_in _ (by have:=MM9.out;omega);have hv9:IntKind.i64.wrap (k':Int)=(k':Int):=(Go.IntWalk.i64_left _).trans hw9;have hu9:IntKind.i64.wrap (m':Int)=(m':Int):=(Go.IntWalk.i64_left _).trans hm9;have hkl9:k'<ss3.length:=by have:=KL9.out;rwa [LEN9.out] at this
    have hkm9: ¬ss3.length≤k':=Nat.not_le.2 hkl9;clear q19 q29 q39 q49 q59 k39;refine Zy (S:=fun w'=>w'.cell? ⟨g,2,none⟩=some (.slice (some ⟨b9,0,none⟩) ss3.length c9)∧w'.cell? ⟨b5,36,none⟩=some (.int .i64 ((k':Int)+1))∧w'.cell? ⟨b9,k' * 39+38,none⟩=some (.int .i64 ((m'+1:Nat):Int))) 13 (by kernel_rfl) (⟨c29,e59,k29⟩) (fun hHeld=>?_);refine tlp 0 (.pointer (some ⟨g,0,none⟩)) hHeld ?_;simp only [zq];refine tlp 1 (.pointer (some ⟨g,0,none⟩)) hHeld ?_;simp only [zq];refine tlp 2 (.pointer (some ⟨g,2,none⟩)) hHeld ?_;simp only [zq];refine tlg 3 (.slice (some ⟨b9,0,none⟩) ss3.length c9) rfl (Or.inl ⟨by rfl,fun w hS=>by (have z1:=hS.1;go_simp)⟩) hHeld ?_;simp only [zq];refine tlp 4 (.pointer (some ⟨b5,36,none⟩)) hHeld ?_;simp only [zq];refine tlg 5 (.int .i64 ((k':Int)+1)) rfl (Or.inl ⟨by rfl,fun w hS=>by (have z1:=hS.2.1;go_simp)⟩) hHeld ?_;simp only [zq];refine tlg 6 (.int .i64 (k':Int)) rfl (Or.inl ⟨by rfl,fun w hS=>by (go_simp;skip)⟩) hHeld ?_;simp only [zq];refine tlp 7 (.pointer (some ⟨b9,k' * 39,none⟩)) hHeld ?_;simp only [zq];refine tlp 8 (.pointer (some ⟨b9,k' * 39+38,none⟩)) hHeld ?_;simp only [zq];refine tlg 9 (.int .i64 ((m'+1:Nat):Int)) rfl (Or.inl ⟨by rfl,fun w hS=>by (have z1:=hS.2.2;go_simp)⟩) hHeld ?_;simp only [zq];refine tlp 10 (.int .i64 (m':Int)) hHeld ?_;simp only [zq];refine tlp 11 (.pointer (some ⟨b9,k' * 39,none⟩)) hHeld ?_;simp only [zq];refine tlp 12 (.pointer (some ⟨b9,k' * 39+38,none⟩)) hHeld ?_;simp only [zq];refine Zam rfl (by kernel_rfl) (by kernel_rfl) (fun KQ hK=>?_);go_simp
    skip
    refine hK.out _ _ ?_;clear hK KQ;clear hHeld;generalize (w8.setCell ⟨b9,k' * 39+38,none⟩ (.int .i64 (m':Int))).drew=w9 at *;have e60:=HQQ9.out.cell 36;simp only [List.getElem?_toArray] at e60;rw [HAT.out.2.2.2.2.1] at e60;clear e59 c29 k29 f39
    go_wp2_with (go_at_call 95;refine (HQQ9.out.use (fun vp vf h=>CALL9.out _ vp vf h)).mono ?_;rintro e w10 ⟨rfl,ss5,rel5,rq5⟩;have REL5:=Za rel5;have RQ5:=Za rq5;clear rel5 rq5)
    go_ret;refine ⟨by rw [HN0.out,← hwn2];rfl,ss5,REL5.out,RQ5.out.out⟩
theorem Zri (g room:Nat):∀n,FreeC g room n:=fun n=>Nat.strongRecOn n (fun N IH=>Znk g room N IH)
end Go.Proofs.YtlclabbnpjobgaaGreatDoor
