/- When two sides fit below a node, said by the entries. -/
import Derived.Test.YtgfdgjkbcdmboaaGreatDoorDs27
namespace Go.Proofs.YtgfdgjkbcdmboaaGreatDoor
variable {A C es:List Ent}
variable {base d g k n:Nat}
variable {cs:Lz}
variable {u v:Value}
variable {w w' w0:World}
variable {xs:List Value}
set_option maxHeartbeats 100000000
set_option maxRecDepth 20000
open Go.RowKit
structure Sd7 (C:Ce) (q:Int) (es:List Ent):Prop where
 sz:C.sz=es.length
 kinds:(C.kind=0∧q=0∧es=[])∨(C.kind=1∧q≠0∧es.length=1∧∀e∈es,e.1=C.key)∨(C.kind=2∧q≠0∧2≤es.length∧∀e∈es,∀j,j<C.dp→kb e.1 j=kb C.key j)
theorem Zvw (W:Wf cs []) {q:Int} (hm:mayP cs q):∃(n:Nat) (T:Tre),q=(n:Int)∧IsT cs n T∧Sd7 (cat cs q) q T.ents∧∀e∈T.ents,Key e.1:=by
 rcases Zlj W q with ⟨k0,ez⟩ | ⟨n,T,rfl,n1,n2,hT,hce,hk⟩
 ·have hq:q=0:=by
   rcases hm with e | e
   ·exact e
   ·exfalso;obtain ⟨i,_,hi,_,hce⟩:=Zfe (cs:=cs) (h:=q) (by omega);rw [hce] at k0;rcases W.kinds i hi with k | k <;> omega
  subst hq;exact ⟨0,.emp,rfl,rfl,⟨by rw [ez];rfl,.inl ⟨k0,rfl,rfl⟩⟩,fun e he=>by cases he⟩
 ·have ok:=Zbe W T n hT;have hes:sdC cs n=ce cs (n-1):=if_neg (by omega);have hpos:0<T.ents.length:=List.length_pos_iff.2 (ok.pos (by omega));have hsz:=ok.sz;have hsh:=fun d hd=>ok.share d (by omega) hd
  rw [hes,← hce] at hsz hsh;refine ⟨n,T,rfl,hT,⟨hsz,.inr ?_⟩,fun e he=>(ok.ent e he).1⟩;rcases hk with k | k
  ·refine .inl ⟨k,by omega,?_,fun e he=>Zji (ok.ent e he).1 (W.catOk (n:Int)).hk (fun j hj=>hsh 256 (fun e=>by rw [k] at e;omega) e he j hj)⟩;rw [← hsz,hce];rcases W.tr (n-1) n2 with hl | hi
   ·exact hl.sz
   ·have:=hi.kind;rw [hce] at k;omega
  ·refine .inr ⟨k,by omega,?_,fun e he j hj=>hsh _ (fun _=>Nat.le_refl _) e he j hj⟩;rw [← hsz,hce];rcases W.tr (n-1) n2 with hl | hi
   ·have:=hl.kind;rw [hce] at k;omega
   ·exact hi.two
def Good7 (d:Nat) (n1:Nat) (es:List Ent) (i:Nat):Prop:=kb (es.getD i e00).1 d=(if i<n1 then 0 else 1)∧Und (es.getD i e00).1 (es.getD 0 e00).1 (d:Int)
theorem Zsb (hd:d<256) {A C:List Ent} {ka kc:Lq} (hA:∀e∈A,∀j,j≤d→kb e.1 j=kb ka j) (hC:∀e∈C,∀j,j≤d→kb e.1 j=kb kc j):
  (∀i,i<(A++C).length→Good7 d A.length (A++C) i)↔(A≠[]→kb ka d=0)∧(C≠[]→kb kc d=1)∧(A≠[]→C≠[]→Und ka kc (d:Int)):=by
 have gA:∀i,i<A.length→(A++C).getD i e00∈A:=fun i hi=>by
  rw [List.getD_eq_getElem?_getD,List.getElem?_append_left hi,List.getElem?_eq_getElem hi];exact List.getElem_mem hi
 have gC:∀i,¬i<A.length→i<(A++C).length→(A++C).getD i e00∈C:=fun i hi hl=>by
  rw [List.length_append] at hl;rw [List.getD_eq_getElem?_getD,List.getElem?_append_right (by omega),List.getElem?_eq_getElem (by omega)];exact List.getElem_mem _
 constructor
 ·intro h;have h1:A≠[]→kb ka d=0:=fun hne=>by
   have hp:=List.length_pos_iff.2 hne;have:=(h 0 (by rw [List.length_append];omega)).1;rw [if_pos hp,hA _ (gA 0 hp) d (Nat.le_refl _)] at this;exact this
  have h2:C≠[]→Good7 d A.length (A++C) A.length∧(A++C).getD A.length e00∈C:=fun hne=>by
   have hp:=List.length_pos_iff.2 hne;exact ⟨h A.length (by rw [List.length_append];omega),gC _ (by omega) (by rw [List.length_append];omega)⟩
  refine ⟨h1,fun hne=>?_,fun ha hc=>?_⟩
  ·obtain ⟨q1,q2⟩:=h2 hne;have:=q1.1;rw [if_neg (by omega),hC _ q2 d (Nat.le_refl _)] at this;exact this
  ·obtain ⟨q1,q2⟩:=h2 hc;refine ⟨by omega,by omega,fun j hj=>?_⟩;have:=q1.2.2.2 j hj;rw [hC _ q2 j (by omega),hA _ (gA 0 (List.length_pos_iff.2 ha)) j (by omega)] at this;exact this.symm
 ·rintro ⟨h1,h2,h3⟩ i hi;have h0:Und ((A++C).getD 0 e00).1 ((A++C).getD 0 e00).1 (d:Int):=⟨by omega,by omega,fun _ _=>rfl⟩
  by_cases hlt:i<A.length
  ·have hne:A≠[]:=List.length_pos_iff.1 (by omega);refine ⟨by rw [if_pos hlt,hA _ (gA i hlt) d (Nat.le_refl _)];exact h1 hne,by omega,by omega,fun j hj=>?_⟩;rw [hA _ (gA i hlt) j (by omega),hA _ (gA 0 (by omega)) j (by omega)]
  ·have hm:=gC i hlt hi;have hne:C≠[]:=List.ne_nil_of_mem hm;refine ⟨by rw [if_neg hlt,hC _ hm d (Nat.le_refl _)];exact h2 hne,by omega,by omega,fun j hj=>?_⟩
   by_cases ha:A=[]
   ·have hz:=gC 0 (by rw [ha];simp) (by omega);rw [hC _ hm j (by omega),hC _ hz j (by omega)]
   ·rw [hC _ hm j (by omega),hA _ (gA 0 (List.length_pos_iff.2 ha)) j (by omega)];exact ((h3 ha hne).2.2 j hj).symm
def Pre7 (d:Nat) (C:Ce):Prop:=C.kind=2→C.dp=d+1
theorem Yjw {L R:Ce} {l r:Int} (hl:Sd7 L l A) (hr:Sd7 R r C) {d:Nat} (hd:d<256) {u:Bool} (hu:u=true↔Und L.key R.key (d:Int)):
  fitP d L R u=true↔2≤A.length+C.length∧Pre7 d L∧Pre7 d R∧∀i,i<(A++C).length→Good7 d A.length (A++C) i:=by
 have sL:∀ {C:Ce} {q:Int} {es:List Ent},Sd7 C q es→Pre7 d C→∀e∈es,∀j,j≤d→kb e.1 j=kb C.key j:=fun {C q es} h hp e he j hj=>by
  rcases h.kinds with ⟨_,_,rfl⟩ | ⟨_,_,_,k⟩ | ⟨k2,_,_,k⟩
  ·cases he
  ·rw [k e he]
  ·exact k e he j (by rw [hp k2];omega)
 have fs:∀ {C:Ce} {q:Int} {es:List Ent} {b:Int},Sd7 C q es→(fsP C d b=true↔Pre7 d C∧(es≠[]→kb C.key d=b)):=fun {C q es b} h=>by
  unfold fsP Pre7;rcases h.kinds with ⟨k,_,rfl⟩ | ⟨k,_,k1,_⟩ | ⟨k,_,k1,_⟩
  ·simp [k]
  ·have:es≠[]:=List.length_pos_iff.1 (by omega);simp [k,this]
  ·have:es≠[]:=List.length_pos_iff.1 (by omega);simp [k,this]
 have nk:∀ {C:Ce} {q:Int} {es:List Ent},Sd7 C q es→(C.kind=0↔es=[]):=fun {C q es} h=>by
  rcases h.kinds with ⟨k,_,rfl⟩ | ⟨k,_,k1,_⟩ | ⟨k,_,k1,_⟩
  ·simp [k]
  ·have:es≠[]:=List.length_pos_iff.1 (by omega);simp [k,this]
  ·have:es≠[]:=List.length_pos_iff.1 (by omega);simp [k,this]
 unfold fitP;rw [Bool.and_eq_true,Bool.and_eq_true,Bool.and_eq_true,Bool.or_eq_true,Bool.or_eq_true,decide_eq_true_eq,decide_eq_true_eq,decide_eq_true_eq,fs hl,fs hr,hu,nk hl,nk hr,hl.sz,hr.sz];constructor
 ·rintro ⟨a,⟨b1,b2⟩,⟨c1,c2⟩,e⟩;refine ⟨a,b1,c1,(Zsb hd (sL hl b1) (sL hr c1)).2 ⟨b2,c2,fun n1 n2=>?_⟩⟩;rcases e with e | e | e
  ·exact absurd e n1
  ·exact absurd e n2
  ·exact e
 ·rintro ⟨a,b,c,e⟩;obtain ⟨g1,g2,g3⟩:=(Zsb hd (sL hl b) (sL hr c)).1 e;refine ⟨a,⟨b,g1⟩,⟨c,g2⟩,?_⟩
  by_cases n1:A=[]
  ·exact .inl n1
  ·by_cases n2:C=[]
   ·exact .inr (.inl n2)
   ·exact .inr (.inr (g3 n1 n2))
theorem Zkk {ops:Array Oper} {rest:List Oper} {op:Oper} {a:Act} {Q:Exit→Act→World→Prop} (w:World) (hgd:op.guard=none) (ho:op.op=.buildSlice 124 0 #[])
  (hk:∀w' g,w.heap.size≤g→w'.ownsRow w.heap.size 152 33 (.slice (some ⟨g,0,none⟩) 0 0) 0 []→Kb w w'→wpList Tryz.prog ops Q rest (a.put op.dst (.slice (some ⟨g,0,none⟩) 0 0)) w'):wpList Tryz.prog ops Q (op::rest) a w:=by
 refine wpList_plain hgd fun K hK=>?_
 obtain ⟨i,z,hi,hz,hs,_,hzs⟩:=Zgn;have ht:Tryz.prog.underlying 124=some (.slice 152):=Tryz.underlying124;have hrun:(Instr.buildSlice 124 0 #[]).run Tryz.prog w=.ok (.slice (some ⟨w.heap.size,0,none⟩) 0 0) (w.alloc (.cells #[] 152)):=by
  have he:∀f:Nat→Value,Array.map f (Array.range 0)= #[]:=fun f=>Array.eq_empty_of_size_eq_zero (by simp)
  simp [Instr.buildSlice,run_underlying ht,sizeOf,typeInfo,hi,Instr.fill,newRow,he]
 unfold Oper.wp execOp;simp only [ho,List.map_toArray,List.map_nil,Sem.run_bind,hrun,Result.andThen_ok,Sem.run_pure];refine hK _ _ (hk _ w.heap.size (Nat.le_refl _) ⟨rfl,.inr ⟨w.heap.size,0, #[],rfl,Nat.le_refl _,Blk.new _ _ _,Nat.le_refl _,by simp only [maxLen];omega,rfl,rfl⟩⟩ (Zh w _))
theorem Zdi {ops:Array Oper} {rest:List Oper} {o:Oper} {a:Act} {Q:Exit→Act→World→Prop} (w:World) (hgd:o.guard=none) (s x:Operand)
  (hop:o.op=.call { callee:=.builtin .append,args:= #[s,x],argTypes:= #[124,124]})
  (base base2:Nat) (v1 v2:Value) (n1 n2:Nat) (xs1 xs2:List Value) (hs:a.eval s=v1) (hx:a.eval x=v2) (h1:w.ownsRow base 152 33 v1 n1 xs1) (h2:w.ownsRow base2 152 33 v2 n2 xs2) (hc:∀u∈xs2,u.oneCell'=true) (hn:n1+n2≤65536) (hbase:base≤w.heap.size)
  (hk:∀v' w',w'.ownsRow base 152 33 v' (n1+n2) (xs1++xs2)→w.grownBy w' v1.ownBlock→wpList Tryz.prog ops Q rest (a.put o.dst v') w'):wpList Tryz.prog ops Q (o::rest) a w:=by
 refine wpList_plain hgd fun K hK=>?_
 obtain ⟨v',w',hr,q1,q2⟩:=Zne o.type w base base2 v1 v2 n1 n2 xs1 xs2 h1 h2 hc hn hbase;unfold Oper.wp execOp;simp only [hop,resolve,invoke,builtin,Sem.run_bind,Sem.run_pure,Result.andThen_ok,List.map_toArray,List.map_cons,List.map_nil,hs,hx,hr];exact hK _ _ (hk v' w' q1 q2)
theorem Znn {e:TypeId} (h:w.ownsRow base e k v n xs) (hg:w.grownBy w' u.ownBlock) (hn:∀g,v.ownBlock=some g→u.ownBlock=some g→False):w'.ownsRow base e k v n xs:=
 Zfu (S:=u.ownBlock.toList) h (Mod.of_grown hg (fun k hk=>by simp [hk])) (fun g e1 e2=>hn g e1 (by simpa using e2))
def En7 (w0:World) (es:List Ent) (n:Nat) (w:World) (e:Ending) (w':World):Prop:=
 ∃a c its,e=.returned (.slice a n c)∧its.map (·.1)=es∧its.length=n∧(∀p∈its,Key p.1.1∧Reads w0 p.2 p.1.2)∧w'.ownsRow w.heap.size 152 33 (.slice a n c) n (flatP its)∧Kb w w'
theorem en7 {e:Ending} (h:EnPost w0 es w e w'):En7 w0 es es.length w e w':=by
 obtain ⟨v,its,e1,m,p,o,q⟩:=h;obtain ⟨a,c,rfl⟩:=Zo (Zap o);have hl:its.length=es.length:=by rw [← m,List.length_map]
 rw [hl] at e1 o;exact ⟨a,c,its,e1,m,hl,p,o,q⟩
structure FitH (w:World) (g d:Nat) (l r:Int) (X Y Z:List Value) (kl kr:Int) (dl dr:Int) (A C es:List Ent) (n1 n2:Nat) (b:Bool) (dpl dpr:Nat):Prop where
 HEl:∀w',Kb w w'→Kc 76 #[.pointer (some ⟨g,0,none⟩),.int .i64 l] w' (En7 w A n1 w')
 HEr:∀w',Kb w w'→Kc 76 #[.pointer (some ⟨g,0,none⟩),.int .i64 r] w' (En7 w C n2 w')
 HAl:Kr w 107 #[.pointer (some ⟨g,0,none⟩),.int .i64 l] (.agg X.toArray)
 HAr:Kr w 107 #[.pointer (some ⟨g,0,none⟩),.int .i64 r] (.agg Y.toArray)
 HLX:(Tryz.prog.info? 154).map (·.size)=some X.toArray.size
 HLY:(Tryz.prog.info? 154).map (·.size)=some Y.toArray.size
 HZ:∀w,(zeroValue 154).run Tryz.prog w=.ok (.agg Z.toArray) w
 HZX:Z.toArray.size=X.toArray.size
 HZY:Z.toArray.size=Y.toArray.size
 H1X:∀u∈X,u.oneCell'=true
 H1Y:∀u∈Y,u.oneCell'=true
 HX0:X[0]?=some (.int .u8 kl)
 HX1:X[1]?=some (.int .i64 dl)
 HY0:Y[0]?=some (.int .u8 kr)
 HY1:Y[1]?=some (.int .i64 dr)
 hdl:dl=(dpl:Int)
 hdr:dr=(dpr:Int)
 HES:A++C=es
 hle:es.length=n1+n2
 fl:n1≤5000
 fr:n2≤5000
 hfit:b=true↔2≤n1+n2∧(kl=2→dpl=d+1)∧(kr=2→dpr=d+1)∧∀i,i<es.length→Good7 d n1 es i
theorem Zcv {l r kl kr:Int} {X Y Z:List Value} {dl dr:Int} {n1 n2:Nat} {b:Bool} {dpl dpr:Nat} (F:FitH w g d l r X Y Z kl kr dl dr A C es n1 n2 b dpl dpr) (hd:d<256) (hb:b=false) (hk:(kl=0∧kr=0∧(l == 0)=true∧(r == 0)=true)∨(kl=0∧kr=1∧(l == 0)=true∧(r == 0)=false)∨(kl=1∧kr=0∧(l == 0)=false∧(r == 0)=true)∨(kl=2∧kr=0∧(l == 0)=false∧(r == 0)=true∧(dl == (d:Int)+1)=false)∨(kl=2∧kr=1∧(l == 0)=false∧(r == 0)=false∧(dl == (d:Int)+1)=false)∨(kl=2∧kr=2∧(l == 0)=false∧(r == 0)=false∧(dl == (d:Int)+1)=false)∨(kl=0∧kr=2∧(l == 0)=true∧(r == 0)=false∧(dr == (d:Int)+1)=false)∨(kl=1∧kr=2∧(l == 0)=false∧(r == 0)=false∧(dr == (d:Int)+1)=false)∨(kl=2∧kr=2∧(l == 0)=false∧(r == 0)=false∧dl=(d:Int)+1∧(dr == (d:Int)+1)=false)):Kc 169 #[.pointer (some ⟨g,0,none⟩),.int .i64 (d:Int),.int .i64 l,.int .i64 r] w fun e w'=>e=.returned (.bool b)∧Kb w w':=by
 have HAl:=Za F.HAl;have HAr:=Za F.HAr;have HLX:=Za F.HLX;have HLY:=Za F.HLY;have HZ:=Za F.HZ;have HZX:=Za F.HZX;have HZY:=Za F.HZY;have H1X:=Za F.H1X;have H1Y:=Za F.H1Y;have HX0:=Za F.HX0;have HX1:=Za F.HX1;have HY0:=Za F.HY0;have HY1:=Za F.HY1;have hdl:=F.hdl;have hdr:=F.hdr;clear F;subst hb;rcases hk with ⟨rfl,rfl,ql,qr⟩ | ⟨rfl,rfl,ql,qr⟩ | ⟨rfl,rfl,ql,qr⟩ | ⟨rfl,rfl,ql,qr,xl2⟩ | ⟨rfl,rfl,ql,qr,xl2⟩ | ⟨rfl,rfl,ql,qr,xl2⟩ | ⟨rfl,rfl,ql,qr,xr2⟩ | ⟨rfl,rfl,ql,qr,xr2⟩ | ⟨rfl,rfl,ql,qr,rfl,xr2⟩
 all_goals
  try have xl: ¬dl=(d:Int)+1:=by simpa using xl2
  try have xr: ¬dr=(d:Int)+1:=by simpa using xr2
  go_enter Tryz.func169,Tryz.ntmps169
  go_wp2_with (first
      |(go_at_call 107;first | (refine (HAr.out _ Hb1.out).mono ?_;rintro e w2 ⟨rfl,b2⟩;have Hb2:=Za (Zb Hb1.out b2);clear b2) | (refine (HAl.out _ (Below.refl _ _)).mono ?_;rintro e w1 ⟨rfl,b1⟩;have Hb1:=Za b1;clear b1))
      |((with_reducible refine Zw 9 ?_);refine Zf _ rfl _ rfl _ HZ.out ?_;intro w3 b9 hg9 hl9 B9 b3;have HB9:=Za B9;have Hb3:=Za (Zb Hb2.out b3);have Hg9:Hid (w.heap.size≤b9):=Nat.le_trans Hb2.out.size hg9;clear B9 hg9 hl9 b3)
      |((with_reducible refine Zw 10 ?_);refine Zf _ rfl _ rfl _ HZ.out ?_;intro w4 b10 hg10 hl10 B10 b4;have HB9a:=Za (HB9.out.grow b4);have HB10:=Za B10;have Hb4:=Za (Zb Hb3.out b4);have hne:b9≠b10:=(by have:=HB9.out.lt;omega);have Hg10:Hid (w.heap.size≤b10):=Nat.le_trans Hb3.out.size hg10;clear B10 hg10 hl10 b4)
      |((with_reducible refine Zah 9 ?_);refine Zg _ rfl _ _ _ rfl b9 _ X.toArray rfl rfl HB9a.out HLX.out HZX.out (all_oneCell_toArray H1X.out) ?_;intro w5 B9b r5;have HB9b:=Za B9b;have HB10b:=Za (HB10.out.kept r5 (Ne.symm hne));have Hb5:=Za (Ze Hb4.out r5 Hg9.out);clear B9b r5)
      |((with_reducible refine Zah 10 ?_);refine Zg _ rfl _ _ _ rfl b10 _ Y.toArray rfl rfl HB10b.out HLY.out HZY.out (all_oneCell_toArray H1Y.out) ?_;intro w6 B10c r6;have HB9c:=HB9b.out.kept r6 hne;have Hb6:=Za (Ze Hb5.out r6 Hg10.out);have c90:=HB9c.cell 0;have c91:=HB9c.cell 1;have c100:=B10c.cell 0;have c101:=B10c.cell 1;rw [List.getElem?_toArray,HX0.out] at c90;rw [List.getElem?_toArray,HX1.out] at c91;rw [List.getElem?_toArray,HY0.out] at c100;rw [List.getElem?_toArray,HY1.out] at c101;clear B10c r6 HB9c)
      |(go_at_call 76;first | (refine (HEr.out _ Hb7.out).mono ?_;rintro e w8 ⟨a2,c2,its2,rfl,m2,hl2,p2,o2,q2⟩;have O1b:=Za (Zn O1.out q2);have O2:=Za o2;have P2:=Za p2;have M2:=Za m2;have Hb8:=Za (Zb Hb7.out q2);have HL2:=Za hl2;clear o2 p2 m2 q2 hl2) | (refine (HEl.out _ Hb6.out).mono ?_;rintro e w7 ⟨a1,c1,its1,rfl,m1,hl1,p1,o1,q1⟩;have O1:=Za o1;have P1:=Za p1;have M1:=Za m1;have Hb7:=Za (Zb Hb6.out q1);have HL1:=Za hl1;clear o1 p1 m1 q1 hl1))
      |(refine Zkk _ rfl rfl ?_;intro w10 b0 hg0 o0 q0;have O0:Hid (w10.ownsRow w.heap.size 152 33 (.slice (some ⟨b0,0,none⟩) 0 0) 0 []):=Zae o0 Hb8.out.size;have O1c:=Za (Zn O1b.out q0);have O2b:=Za (Zn O2.out q0);have Hb10:=Za (Zb Hb8.out q0);have Hg0:Hid (w8.heap.size≤b0):=hg0;clear o0 q0 hg0)
      |(at_builtin;refine Zdi _ rfl _ _ rfl w.heap.size w7.heap.size v8 (.slice a2 n2 c2) (0+n1) n2 _ _ rfl rfl O3.out O2c.out (Zef P2.out) (by omega) Hb11.out.size ?_;intro v9 w12 o9 g9;obtain ⟨a9,c9,rfl⟩:=Zo (Zap o9);have O9:=Za o9;have Hb12:=Za (Zal Hb11.out O3.out (Nat.le_refl _) g9);clear o9 g9)
      |(at_builtin;refine Zdi _ rfl _ _ rfl w.heap.size w6.heap.size (.slice (some ⟨b0,0,none⟩) 0 0) (.slice a1 n1 c1) 0 n1 _ _ rfl rfl O0.out O1c.out (Zef P1.out) (by omega) Hb10.out.size ?_;intro v8 w11 o8 g8;have O3:=Za o8;have O2c:Hid (w11.ownsRow w7.heap.size 152 33 (.slice a2 n2 c2) n2 (flatP its2)):=Znn O2b.out g8 (fun k e1 e2=>Nat.lt_irrefl _ (Nat.lt_of_lt_of_le (O2.out.lt k e1).2 (by have:b0=k:=(by simpa [Value.ownBlock] using e2);rw [← this];exact Hg0.out)));have Hb11:=Za (Zal Hb10.out O0.out (Nat.le_refl _) g8);clear o8 g8))
  go_ret;exact ⟨rfl,Hb6.out⟩
theorem Zfj {l r kl kr:Int} {X Y Z:List Value} {dl dr:Int} {n1 n2:Nat} {b:Bool} {dpl dpr:Nat} (F:FitH w g d l r X Y Z kl kr dl dr A C es n1 n2 b dpl dpr) (hd:d<256) (hk:(kl=2∧kr=0∧(l == 0)=false∧(r == 0)=true∧2≤n1∧n2=0∧dl=(d:Int)+1)∨(kl=2∧kr=1∧(l == 0)=false∧(r == 0)=false∧2≤n1∧n2=1∧dl=(d:Int)+1)∨(kl=2∧kr=2∧(l == 0)=false∧(r == 0)=false∧2≤n1∧2≤n2∧dl=(d:Int)+1∧dr=(d:Int)+1)∨(kl=0∧kr=2∧(l == 0)=true∧(r == 0)=false∧n1=0∧2≤n2∧dr=(d:Int)+1)∨(kl=1∧kr=2∧(l == 0)=false∧(r == 0)=false∧n1=1∧2≤n2∧dr=(d:Int)+1)∨(kl=1∧kr=1∧(l == 0)=false∧(r == 0)=false∧n1=1∧n2=1)):Kc 169 #[.pointer (some ⟨g,0,none⟩),.int .i64 (d:Int),.int .i64 l,.int .i64 r] w fun e w'=>e=.returned (.bool b)∧Kb w w':=by
 have HEl:=Za F.HEl;have HEr:=Za F.HEr;have HAl:=Za F.HAl;have HAr:=Za F.HAr;have HLX:=Za F.HLX;have HLY:=Za F.HLY;have HZ:=Za F.HZ;have HZX:=Za F.HZX;have HZY:=Za F.HZY;have H1X:=Za F.H1X;have H1Y:=Za F.H1Y;have HX0:=Za F.HX0;have HX1:=Za F.HX1;have HY0:=Za F.HY0;have HY1:=Za F.HY1;have HES:=Za F.HES;have hdl:=F.hdl;have hdr:=F.hdr;have hle:=F.hle;have fl:=F.fl;have fr':=F.fr;have hfit:=F.hfit;clear F;rcases hk with ⟨rfl,rfl,ql,qr,ll,lr,rfl⟩ | ⟨rfl,rfl,ql,qr,ll,lr,rfl⟩ | ⟨rfl,rfl,ql,qr,ll,lr,rfl,rfl⟩ | ⟨rfl,rfl,ql,qr,ll,lr,rfl⟩ | ⟨rfl,rfl,ql,qr,ll,lr,rfl⟩ | ⟨rfl,rfl,ql,qr,ll,lr⟩
 all_goals
  have HGD:Hid ((∀i,i<es.length→Good7 d n1 es i)→b=true):=fun hg=>hfit.2 ⟨by omega,fun e=>by omega,fun e=>by omega,hg⟩
  have HBD:Hid (∀i,i<es.length→ ¬Good7 d n1 es i→b=false):=fun i hi hn=>by
   rw [← Bool.not_eq_true];intro hbt;exact hn ((hfit.1 hbt).2.2.2 i hi)
  have hp2:2≤n1+n2:=by omega
  clear hfit ll lr;go_enter Tryz.func169,Tryz.ntmps169
  go_wp2_with (first
      |(go_at_call 107;first | (refine (HAr.out _ Hb1.out).mono ?_;rintro e w2 ⟨rfl,b2⟩;have Hb2:=Za (Zb Hb1.out b2);clear b2) | (refine (HAl.out _ (Below.refl _ _)).mono ?_;rintro e w1 ⟨rfl,b1⟩;have Hb1:=Za b1;clear b1))
      |((with_reducible refine Zw 9 ?_);refine Zf _ rfl _ rfl _ HZ.out ?_;intro w3 b9 hg9 hl9 B9 b3;have HB9:=Za B9;have Hb3:=Za (Zb Hb2.out b3);have Hg9:Hid (w.heap.size≤b9):=Nat.le_trans Hb2.out.size hg9;clear B9 hg9 hl9 b3)
      |((with_reducible refine Zw 10 ?_);refine Zf _ rfl _ rfl _ HZ.out ?_;intro w4 b10 hg10 hl10 B10 b4;have HB9a:=Za (HB9.out.grow b4);have HB10:=Za B10;have Hb4:=Za (Zb Hb3.out b4);have hne:b9≠b10:=(by have:=HB9.out.lt;omega);have Hg10:Hid (w.heap.size≤b10):=Nat.le_trans Hb3.out.size hg10;clear B10 hg10 hl10 b4)
      |((with_reducible refine Zah 9 ?_);refine Zg _ rfl _ _ _ rfl b9 _ X.toArray rfl rfl HB9a.out HLX.out HZX.out (all_oneCell_toArray H1X.out) ?_;intro w5 B9b r5;have HB9b:=Za B9b;have HB10b:=Za (HB10.out.kept r5 (Ne.symm hne));have Hb5:=Za (Ze Hb4.out r5 Hg9.out);clear B9b r5)
      |((with_reducible refine Zah 10 ?_);refine Zg _ rfl _ _ _ rfl b10 _ Y.toArray rfl rfl HB10b.out HLY.out HZY.out (all_oneCell_toArray H1Y.out) ?_;intro w6 B10c r6;have HB9c:=HB9b.out.kept r6 hne;have Hb6:=Za (Ze Hb5.out r6 Hg10.out);have c90:=HB9c.cell 0;have c91:=HB9c.cell 1;have c100:=B10c.cell 0;have c101:=B10c.cell 1;rw [List.getElem?_toArray,HX0.out] at c90;rw [List.getElem?_toArray,HX1.out] at c91;rw [List.getElem?_toArray,HY0.out] at c100;rw [List.getElem?_toArray,HY1.out] at c101;clear B10c r6 HB9c)
      |(go_at_call 76;first | (refine (HEr.out _ Hb7.out).mono ?_;rintro e w8 ⟨a2,c2,its2,rfl,m2,hl2,p2,o2,q2⟩;have O1b:=Za (Zn O1.out q2);have O2:=Za o2;have P2:=Za p2;have M2:=Za m2;have Hb8:=Za (Zb Hb7.out q2);have HL2:=Za hl2;clear o2 p2 m2 q2 hl2) | (refine (HEl.out _ Hb6.out).mono ?_;rintro e w7 ⟨a1,c1,its1,rfl,m1,hl1,p1,o1,q1⟩;have O1:=Za o1;have P1:=Za p1;have M1:=Za m1;have Hb7:=Za (Zb Hb6.out q1);have HL1:=Za hl1;clear o1 p1 m1 q1 hl1))
      |(refine Zkk _ rfl rfl ?_;intro w10 b0 hg0 o0 q0;have O0:Hid (w10.ownsRow w.heap.size 152 33 (.slice (some ⟨b0,0,none⟩) 0 0) 0 []):=Zae o0 Hb8.out.size;have O1c:=Za (Zn O1b.out q0);have O2b:=Za (Zn O2.out q0);have Hb10:=Za (Zb Hb8.out q0);have Hg0:Hid (w8.heap.size≤b0):=hg0;clear o0 q0 hg0)
      |(at_builtin;refine Zdi _ rfl _ _ rfl w.heap.size w7.heap.size v8 (.slice a2 n2 c2) (0+n1) n2 _ _ rfl rfl O3.out O2c.out (Zef P2.out) (by omega) Hb11.out.size ?_;intro v9 w12 o9 g9;obtain ⟨a9,c9,rfl⟩:=Zo (Zap o9);have O9:=Za o9;have Hb12:=Za (Zal Hb11.out O3.out (Nat.le_refl _) g9);clear o9 g9)
      |(at_builtin;refine Zdi _ rfl _ _ rfl w.heap.size w6.heap.size (.slice (some ⟨b0,0,none⟩) 0 0) (.slice a1 n1 c1) 0 n1 _ _ rfl rfl O0.out O1c.out (Zef P1.out) (by omega) Hb10.out.size ?_;intro v8 w11 o8 g8;have O3:=Za o8;have O2c:Hid (w11.ownsRow w7.heap.size 152 33 (.slice a2 n2 c2) n2 (flatP its2)):=Znn O2b.out g8 (fun k e1 e2=>Nat.lt_irrefl _ (Nat.lt_of_lt_of_le (O2.out.lt k e1).2 (by have:b0=k:=(by simpa [Value.ownBlock] using e2);rw [← this];exact Hg0.out)));have Hb11:=Za (Zal Hb10.out O0.out (Nat.le_refl _) g8);clear o8 g8))
  obtain ⟨its,hits⟩:∃its,its=its1++its2:=⟨_,rfl⟩;have O10:w12.ownsRow w.heap.size 152 33 (.slice a9 (0+n1+n2) c9) (0+n1+n2) ([]++flatP its1++flatP its2):=O9.out;have hnn:0+n1+n2=its.length:=by rw [hits,List.length_append,HL1.out,HL2.out,Nat.zero_add]
  rw [List.nil_append,show flatP its1++flatP its2=flatP its by rw [hits];simp [flatP],hnn] at O10;have hmi:its.map (·.1)=es:=by rw [hits,List.map_append,M1.out,M2.out,HES.out]
  have hPi:∀p∈its,Key p.1.1∧Reads w p.2 p.1.2:=fun p hp=>by
   rw [hits] at hp;rcases List.mem_append.1 hp with hp | hp
   ·exact P1.out p hp
   ·exact P2.out p hp
  have hpr:=Zih O10 (fun p hp=>(hPi p hp).1) (fun p hp=>(hPi p hp).2.grow Hb12.out);rw [hmi] at hpr;have hil:its.length=es.length:=by rw [← hmi,List.length_map]
  obtain ⟨a',c',he',_,hrr,hkk⟩:=hpr;obtain ⟨ge,off,ea,hr9⟩:=hrr (by omega);injection he' with e1 e2 e3;subst e3;rw [ea] at e1;subst e1;clear e2;have HRA:Hid (∀(i:Nat) w',i<es.length→Kb w12 w'→w'.rangeAt ge (off+i * 33) (B (es.getD i e00).1).toList∧Key (es.getD i e00).1):=fun i w' hi hb=>⟨Zdl (Zix (hr9 i hi)) hb,(hkk i hi).1⟩
  obtain ⟨n,hn⟩:∃n,n=n1+n2:=⟨_,rfl⟩;have hn2:0+n1+n2=n:=by omega
  have HnE:Hid (n=es.length):=by show _=_;omega
  have hn3:n1+n2=n:=by omega
  first | simp only [hn2] | simp only [hn3]
  have hpos:0<n:=by omega
  have hn120:n≤10000:=by omega
  clear O10 hPi hrr hkk hr9 O9 O3 O2c O2b O2 O1 O1b O1c O0 P1 P2 M1 M2 hits hmi hil hn2 hn3 hn hnn hle HL1 HL2 c90 c91 c100 c101
  go_loopw [14] (fun i wr=>∃(k:Nat),k≤n∧i=.int .i64 k∧(∀i,i<k→Good7 d n1 es i)∧Kb w12 wr) (fun i _=>n-(intOf i).toNat)
  case atStart=>exact ⟨0,by omega,rfl,fun i hi=>by omega,Below.refl _ _⟩
  case round=>
   obtain ⟨k,hk,rfl,hgs,hbw⟩:=hrel
   by_cases hlt:k<n
   ·have z1:(k:Int)<(n:Int):=by omega
    have z0:(0:Int)≤(k:Int):=by omega
    have z2:(0:Int)<(n:Int):=by omega
    obtain ⟨_,hK1⟩:=HRA.out k w12 (by have:=HnE.out;omega) (Below.refl _ _);obtain ⟨_,hK0⟩:=HRA.out 0 w12 (by have:=HnE.out;omega) (Below.refl _ _);have HRk:Hid (∀w',Kb wr w'→w'.rangeAt ge (off+k * 33) (B (es.getD k e00).1).toList):=fun w' hb=>(HRA.out k w' (by have:=HnE.out;omega) (Zb hbw hb)).1
    have HR0:Hid (∀w',Kb wr w'→w'.rangeAt ge off (B (es.getD 0 e00).1).toList):=fun w' hb=>by
     have:=(HRA.out 0 w' (by have:=HnE.out;omega) (Zb hbw hb)).1;rwa [Nat.zero_mul,Nat.add_zero] at this
    have HPLk:Hid ((Tryz.prog.info? 34).map (·.size)=some (B (es.getD k e00).1).toList.length):=by show _=_;rw [Zas,List.length_map,hK1.1];exact Zfq
    have HPL0:Hid ((Tryz.prog.info? 34).map (·.size)=some (B (es.getD 0 e00).1).toList.length):=by show _=_;rw [Zas,List.length_map,hK0.1];exact Zfq
    obtain ⟨K1,hK1e⟩:∃K,K=(es.getD k e00).1:=⟨_,rfl⟩;obtain ⟨K0,hK0e⟩:∃K,K=(es.getD 0 e00).1:=⟨_,rfl⟩;rw [← hK1e] at HRk HPLk hK1;rw [← hK0e] at HR0 HPL0 hK0;have HKe:=Za hK1e.symm;have HK0e:=Za hK0e.symm;obtain ⟨c,hc⟩:=Zok K1 K0;have HIC:=Za hc;have HBit:Hid (∀w',Kc 106 #[.agg (B K1),.int .i64 (d:Int)] w' fun e w''=>e=.returned (.int .i64 (kb K1 d))∧Below w'.heap.size w' w''):=fun w'=>by
     have:=Zri K1 d w' hK1;rwa [Zdp _ _ hd] at this
    have HCom:Hid (∀w',Kc 192 #[.agg (B K1),.agg (B K0)] w' fun e w''=>e=.returned (.int .i64 (c:Int))∧Below w'.heap.size w' w''):=fun w'=>Zhg K1 K0 c w' hK1 hK0 hc
    clear hK1e hK0e hc
    by_cases hb1:k<n1
    ·have y1:(k:Int)<(n1:Int):=by omega
     have hbit:(if k<n1 then (0:Int) else 1)=0:=if_pos hb1
     by_cases hkb:kb K1 d=0
     ·rw [hkb] at HBit
      by_cases hcd:c<d
      ·have hcd2:(c:Int)<(d:Int):=by omega
       have HBAD:Hid (b=false):=HBD.out k (by have:=HnE.out;omega) (fun hg=>by have h2:=hg.2;rw [HKe.out,HK0e.out] at h2;have:=(Zeb HIC.out (d:Int) (by omega) (by omega)).2 h2;omega)
       go_wp2_with fail
       refine wp_region_held_drew (S:=fun w'=>Kb wr w') (by kernel_rfl) (below_drewN (Below.refl _ _) 1) (fun hHeld=>?_);refine tkp 0 (.slice (some ⟨ge,off,none⟩) n c9) hHeld ?_;simp only [zq];refine tkp 1 (.int .i64 (k:Int)) hHeld ?_;simp only [zq];refine tkp 2 (.pointer (some ⟨ge,off+k * 33,none⟩)) hHeld ?_;simp only [zq];refine tkp 3 (.pointer (some ⟨ge,off+k * 33,none⟩)) hHeld ?_;simp only [zq];refine tkg 4 (.agg (B K1)) rfl (yieldsIf_load_mid rfl 34 (.tmp 92) rfl ge (off+k * 33) rfl (B K1).toList _ (fun w hS=>HRk.out _ hS) Tryz.underlying34 rfl HPLk.out) hHeld ?_;simp only [zq];refine tkp 5 (.int .i64 (d:Int)) hHeld ?_;simp only [zq];refine tkp 7 (.int .i64 0) hHeld ?_;simp only [zq];refine wpAnyH_ready (rs:=[6]) (by kernel_rfl) (by simp) ?_;refine AllReadyH.cons rfl (fun KQ hK=>?_) AllReadyH.nil;go_simp;refine (HBit.out _).mono ?_;rintro e z1 ⟨rfl,a1⟩;refine hK.out _ _ (Zb hHeld a1) (fun hHeld=>?_);clear hK KQ;refine tkp 8 (.bool false) hHeld ?_;simp only [zq];refine tkp 9 (.bool false) hHeld ?_;simp only [zq];refine tkp 10 (.slice (some ⟨ge,off,none⟩) n c9) hHeld ?_;simp only [zq];refine tkp 11 (.int .i64 (k:Int)) hHeld ?_;simp only [zq];refine tkp 12 (.pointer (some ⟨ge,off+k * 33,none⟩)) hHeld ?_;simp only [zq];refine tkp 13 (.pointer (some ⟨ge,off+k * 33,none⟩)) hHeld ?_;simp only [zq];refine tkg 14 (.agg (B K1)) rfl (yieldsIf_load_mid rfl 34 (.tmp 102) rfl ge (off+k * 33) rfl (B K1).toList _ (fun w hS=>HRk.out _ hS) Tryz.underlying34 rfl HPLk.out) hHeld ?_;simp only [zq];refine tkp 15 (.slice (some ⟨ge,off,none⟩) n c9) hHeld ?_;simp only [zq];refine tkp 16 (.pointer (some ⟨ge,off,none⟩)) hHeld ?_;simp only [zq];refine tkp 17 (.pointer (some ⟨ge,off,none⟩)) hHeld ?_;simp only [zq];refine tkg 18 (.agg (B K0)) rfl (yieldsIf_load_mid rfl 34 (.tmp 106) rfl ge (off) rfl (B K0).toList _ (fun w hS=>HR0.out _ hS) Tryz.underlying34 rfl HPL0.out) hHeld ?_;simp only [zq];refine tkp 20 (.int .i64 (d:Int)) hHeld ?_;simp only [zq];refine wpAnyH_ready (rs:=[19]) (by kernel_rfl) (by simp) ?_;refine AllReadyH.cons rfl (fun KQ hK=>?_) AllReadyH.nil;go_simp;refine (HCom.out _).mono ?_;rintro e z2 ⟨rfl,a2⟩;refine hK.out _ _ (Zb hHeld a2) (fun hHeld=>?_);clear hK KQ;refine tkp 21 (.bool true) hHeld ?_;simp only [zq];refine tkp 22 (.bool true) hHeld ?_;simp only [zq];refine wpAnyH_done (by kernel_rfl) ?_ _;have HQz:=Za (Zb Hb12.out (Zb hbw hHeld))
       go_wp2_with fail
       go_ret;exact ⟨by rw [HBAD.out];rfl,HQz.out⟩
      ·have hcd2: ¬(c:Int)<(d:Int):=by omega
       have HGS:Hid (∀i,i<k+1→Good7 d n1 es i):=fun i hi=>by
        by_cases hik:i<k
        ·exact hgs i hik
        ·obtain rfl:i=k:=by omega
         exact ⟨by rw [HKe.out,hbit];exact hkb,by rw [HKe.out,HK0e.out];exact (Zeb HIC.out (d:Int) (by omega) (by omega)).1 (by omega)⟩
       go_wp2_with fail
       refine wp_region_held_drew (S:=fun w'=>Kb wr w') (by kernel_rfl) (below_drewN (Below.refl _ _) 1) (fun hHeld=>?_);refine tkp 0 (.slice (some ⟨ge,off,none⟩) n c9) hHeld ?_;simp only [zq];refine tkp 1 (.int .i64 (k:Int)) hHeld ?_;simp only [zq];refine tkp 2 (.pointer (some ⟨ge,off+k * 33,none⟩)) hHeld ?_;simp only [zq];refine tkp 3 (.pointer (some ⟨ge,off+k * 33,none⟩)) hHeld ?_;simp only [zq];refine tkg 4 (.agg (B K1)) rfl (yieldsIf_load_mid rfl 34 (.tmp 92) rfl ge (off+k * 33) rfl (B K1).toList _ (fun w hS=>HRk.out _ hS) Tryz.underlying34 rfl HPLk.out) hHeld ?_;simp only [zq];refine tkp 5 (.int .i64 (d:Int)) hHeld ?_;simp only [zq];refine tkp 7 (.int .i64 0) hHeld ?_;simp only [zq];refine wpAnyH_ready (rs:=[6]) (by kernel_rfl) (by simp) ?_;refine AllReadyH.cons rfl (fun KQ hK=>?_) AllReadyH.nil;go_simp;refine (HBit.out _).mono ?_;rintro e z1 ⟨rfl,a1⟩;refine hK.out _ _ (Zb hHeld a1) (fun hHeld=>?_);clear hK KQ;refine tkp 8 (.bool false) hHeld ?_;simp only [zq];refine tkp 9 (.bool false) hHeld ?_;simp only [zq];refine tkp 10 (.slice (some ⟨ge,off,none⟩) n c9) hHeld ?_;simp only [zq];refine tkp 11 (.int .i64 (k:Int)) hHeld ?_;simp only [zq];refine tkp 12 (.pointer (some ⟨ge,off+k * 33,none⟩)) hHeld ?_;simp only [zq];refine tkp 13 (.pointer (some ⟨ge,off+k * 33,none⟩)) hHeld ?_;simp only [zq];refine tkg 14 (.agg (B K1)) rfl (yieldsIf_load_mid rfl 34 (.tmp 102) rfl ge (off+k * 33) rfl (B K1).toList _ (fun w hS=>HRk.out _ hS) Tryz.underlying34 rfl HPLk.out) hHeld ?_;simp only [zq];refine tkp 15 (.slice (some ⟨ge,off,none⟩) n c9) hHeld ?_;simp only [zq];refine tkp 16 (.pointer (some ⟨ge,off,none⟩)) hHeld ?_;simp only [zq];refine tkp 17 (.pointer (some ⟨ge,off,none⟩)) hHeld ?_;simp only [zq];refine tkg 18 (.agg (B K0)) rfl (yieldsIf_load_mid rfl 34 (.tmp 106) rfl ge (off) rfl (B K0).toList _ (fun w hS=>HR0.out _ hS) Tryz.underlying34 rfl HPL0.out) hHeld ?_;simp only [zq];refine tkp 20 (.int .i64 (d:Int)) hHeld ?_;simp only [zq];refine wpAnyH_ready (rs:=[19]) (by kernel_rfl) (by simp) ?_;refine AllReadyH.cons rfl (fun KQ hK=>?_) AllReadyH.nil;go_simp;refine (HCom.out _).mono ?_;rintro e z2 ⟨rfl,a2⟩;refine hK.out _ _ (Zb hHeld a2) (fun hHeld=>?_);clear hK KQ;refine tkp 21 (.bool false) hHeld ?_;simp only [zq];refine tkp 22 (.bool false) hHeld ?_;simp only [zq];refine wpAnyH_done (by kernel_rfl) ?_ _;have HQz:=Za (Zb hbw hHeld)
       go_wp2_with fail
       exact ⟨⟨k+1,by omega,by go_num,HGS.out,HQz.out⟩,by simp [intOf];omega⟩
     ·have HBAD:Hid (b=false):=HBD.out k (by have:=HnE.out;omega) (fun hg=>hkb (by have:=hg.1;rw [HKe.out,hbit] at this;exact this))
      go_wp2_with fail
      refine wp_region_held_drew (S:=fun w'=>Kb wr w') (by kernel_rfl) (below_drewN (Below.refl _ _) 1) (fun hHeld=>?_);refine tkp 0 (.slice (some ⟨ge,off,none⟩) n c9) hHeld ?_;simp only [zq];refine tkp 1 (.int .i64 (k:Int)) hHeld ?_;simp only [zq];refine tkp 2 (.pointer (some ⟨ge,off+k * 33,none⟩)) hHeld ?_;simp only [zq];refine tkp 3 (.pointer (some ⟨ge,off+k * 33,none⟩)) hHeld ?_;simp only [zq];refine tkg 4 (.agg (B K1)) rfl (yieldsIf_load_mid rfl 34 (.tmp 92) rfl ge (off+k * 33) rfl (B K1).toList _ (fun w hS=>HRk.out _ hS) Tryz.underlying34 rfl HPLk.out) hHeld ?_;simp only [zq];refine tkp 5 (.int .i64 (d:Int)) hHeld ?_;simp only [zq];refine tkp 7 (.int .i64 0) hHeld ?_;simp only [zq];refine wpAnyH_ready (rs:=[6]) (by kernel_rfl) (by simp) ?_;refine AllReadyH.cons rfl (fun KQ hK=>?_) AllReadyH.nil;go_simp;refine (HBit.out _).mono ?_;rintro e z1 ⟨rfl,a1⟩;refine hK.out _ _ (Zb hHeld a1) (fun hHeld=>?_);clear hK KQ;refine tkp 8 (.bool true) hHeld ?_;simp only [zq];refine tkp 9 (.bool true) hHeld ?_;simp only [zq];refine tks 10 hHeld ?_;simp only [zq];refine tks 11 hHeld ?_;simp only [zq];refine tks 12 hHeld ?_;simp only [zq];refine tks 13 hHeld ?_;simp only [zq];refine tks 14 hHeld ?_;simp only [zq];refine tks 15 hHeld ?_;simp only [zq];refine tks 16 hHeld ?_;simp only [zq];refine tks 17 hHeld ?_;simp only [zq];refine tks 18 hHeld ?_;simp only [zq];refine tks 19 hHeld ?_;simp only [zq];refine tks 20 hHeld ?_;simp only [zq];refine tks 21 hHeld ?_;simp only [zq];refine tkp 22 (.bool true) hHeld ?_;simp only [zq];refine wpAnyH_done (by kernel_rfl) ?_ _;have HQz:=Za (Zb Hb12.out (Zb hbw hHeld))
      go_wp2_with fail
      go_ret;exact ⟨by rw [HBAD.out];rfl,HQz.out⟩
    ·have y1:(n1:Int)≤(k:Int):=by omega
     have hbit:(if k<n1 then (0:Int) else 1)=1:=if_neg hb1
     by_cases hkb:kb K1 d=1
     ·rw [hkb] at HBit
      by_cases hcd:c<d
      ·have hcd2:(c:Int)<(d:Int):=by omega
       have HBAD:Hid (b=false):=HBD.out k (by have:=HnE.out;omega) (fun hg=>by have h2:=hg.2;rw [HKe.out,HK0e.out] at h2;have:=(Zeb HIC.out (d:Int) (by omega) (by omega)).2 h2;omega)
       go_wp2_with fail
       refine wp_region_held_drew (S:=fun w'=>Kb wr w') (by kernel_rfl) (below_drewN (Below.refl _ _) 1) (fun hHeld=>?_);refine tkp 0 (.slice (some ⟨ge,off,none⟩) n c9) hHeld ?_;simp only [zq];refine tkp 1 (.int .i64 (k:Int)) hHeld ?_;simp only [zq];refine tkp 2 (.pointer (some ⟨ge,off+k * 33,none⟩)) hHeld ?_;simp only [zq];refine tkp 3 (.pointer (some ⟨ge,off+k * 33,none⟩)) hHeld ?_;simp only [zq];refine tkg 4 (.agg (B K1)) rfl (yieldsIf_load_mid rfl 34 (.tmp 92) rfl ge (off+k * 33) rfl (B K1).toList _ (fun w hS=>HRk.out _ hS) Tryz.underlying34 rfl HPLk.out) hHeld ?_;simp only [zq];refine tkp 5 (.int .i64 (d:Int)) hHeld ?_;simp only [zq];refine tkp 7 (.int .i64 1) hHeld ?_;simp only [zq];refine wpAnyH_ready (rs:=[6]) (by kernel_rfl) (by simp) ?_;refine AllReadyH.cons rfl (fun KQ hK=>?_) AllReadyH.nil;go_simp;refine (HBit.out _).mono ?_;rintro e z1 ⟨rfl,a1⟩;refine hK.out _ _ (Zb hHeld a1) (fun hHeld=>?_);clear hK KQ;refine tkp 8 (.bool false) hHeld ?_;simp only [zq];refine tkp 9 (.bool false) hHeld ?_;simp only [zq];refine tkp 10 (.slice (some ⟨ge,off,none⟩) n c9) hHeld ?_;simp only [zq];refine tkp 11 (.int .i64 (k:Int)) hHeld ?_;simp only [zq];refine tkp 12 (.pointer (some ⟨ge,off+k * 33,none⟩)) hHeld ?_;simp only [zq];refine tkp 13 (.pointer (some ⟨ge,off+k * 33,none⟩)) hHeld ?_;simp only [zq];refine tkg 14 (.agg (B K1)) rfl (yieldsIf_load_mid rfl 34 (.tmp 102) rfl ge (off+k * 33) rfl (B K1).toList _ (fun w hS=>HRk.out _ hS) Tryz.underlying34 rfl HPLk.out) hHeld ?_;simp only [zq];refine tkp 15 (.slice (some ⟨ge,off,none⟩) n c9) hHeld ?_;simp only [zq];refine tkp 16 (.pointer (some ⟨ge,off,none⟩)) hHeld ?_;simp only [zq];refine tkp 17 (.pointer (some ⟨ge,off,none⟩)) hHeld ?_;simp only [zq];refine tkg 18 (.agg (B K0)) rfl (yieldsIf_load_mid rfl 34 (.tmp 106) rfl ge (off) rfl (B K0).toList _ (fun w hS=>HR0.out _ hS) Tryz.underlying34 rfl HPL0.out) hHeld ?_;simp only [zq];refine tkp 20 (.int .i64 (d:Int)) hHeld ?_;simp only [zq];refine wpAnyH_ready (rs:=[19]) (by kernel_rfl) (by simp) ?_;refine AllReadyH.cons rfl (fun KQ hK=>?_) AllReadyH.nil;go_simp;refine (HCom.out _).mono ?_;rintro e z2 ⟨rfl,a2⟩;refine hK.out _ _ (Zb hHeld a2) (fun hHeld=>?_);clear hK KQ;refine tkp 21 (.bool true) hHeld ?_;simp only [zq];refine tkp 22 (.bool true) hHeld ?_;simp only [zq];refine wpAnyH_done (by kernel_rfl) ?_ _;have HQz:=Za (Zb Hb12.out (Zb hbw hHeld))
       go_wp2_with fail
       go_ret;exact ⟨by rw [HBAD.out];rfl,HQz.out⟩
      ·have hcd2: ¬(c:Int)<(d:Int):=by omega
       have HGS:Hid (∀i,i<k+1→Good7 d n1 es i):=fun i hi=>by
        by_cases hik:i<k
        ·exact hgs i hik
        ·obtain rfl:i=k:=by omega
         exact ⟨by rw [HKe.out,hbit];exact hkb,by rw [HKe.out,HK0e.out];exact (Zeb HIC.out (d:Int) (by omega) (by omega)).1 (by omega)⟩
       go_wp2_with fail
       refine wp_region_held_drew (S:=fun w'=>Kb wr w') (by kernel_rfl) (below_drewN (Below.refl _ _) 1) (fun hHeld=>?_);refine tkp 0 (.slice (some ⟨ge,off,none⟩) n c9) hHeld ?_;simp only [zq];refine tkp 1 (.int .i64 (k:Int)) hHeld ?_;simp only [zq];refine tkp 2 (.pointer (some ⟨ge,off+k * 33,none⟩)) hHeld ?_;simp only [zq];refine tkp 3 (.pointer (some ⟨ge,off+k * 33,none⟩)) hHeld ?_;simp only [zq];refine tkg 4 (.agg (B K1)) rfl (yieldsIf_load_mid rfl 34 (.tmp 92) rfl ge (off+k * 33) rfl (B K1).toList _ (fun w hS=>HRk.out _ hS) Tryz.underlying34 rfl HPLk.out) hHeld ?_;simp only [zq];refine tkp 5 (.int .i64 (d:Int)) hHeld ?_;simp only [zq];refine tkp 7 (.int .i64 1) hHeld ?_;simp only [zq];refine wpAnyH_ready (rs:=[6]) (by kernel_rfl) (by simp) ?_;refine AllReadyH.cons rfl (fun KQ hK=>?_) AllReadyH.nil;go_simp;refine (HBit.out _).mono ?_;rintro e z1 ⟨rfl,a1⟩;refine hK.out _ _ (Zb hHeld a1) (fun hHeld=>?_);clear hK KQ;refine tkp 8 (.bool false) hHeld ?_;simp only [zq];refine tkp 9 (.bool false) hHeld ?_;simp only [zq];refine tkp 10 (.slice (some ⟨ge,off,none⟩) n c9) hHeld ?_;simp only [zq];refine tkp 11 (.int .i64 (k:Int)) hHeld ?_;simp only [zq];refine tkp 12 (.pointer (some ⟨ge,off+k * 33,none⟩)) hHeld ?_;simp only [zq];refine tkp 13 (.pointer (some ⟨ge,off+k * 33,none⟩)) hHeld ?_;simp only [zq];refine tkg 14 (.agg (B K1)) rfl (yieldsIf_load_mid rfl 34 (.tmp 102) rfl ge (off+k * 33) rfl (B K1).toList _ (fun w hS=>HRk.out _ hS) Tryz.underlying34 rfl HPLk.out) hHeld ?_;simp only [zq];refine tkp 15 (.slice (some ⟨ge,off,none⟩) n c9) hHeld ?_;simp only [zq];refine tkp 16 (.pointer (some ⟨ge,off,none⟩)) hHeld ?_;simp only [zq];refine tkp 17 (.pointer (some ⟨ge,off,none⟩)) hHeld ?_;simp only [zq];refine tkg 18 (.agg (B K0)) rfl (yieldsIf_load_mid rfl 34 (.tmp 106) rfl ge (off) rfl (B K0).toList _ (fun w hS=>HR0.out _ hS) Tryz.underlying34 rfl HPL0.out) hHeld ?_;simp only [zq];refine tkp 20 (.int .i64 (d:Int)) hHeld ?_;simp only [zq];refine wpAnyH_ready (rs:=[19]) (by kernel_rfl) (by simp) ?_;refine AllReadyH.cons rfl (fun KQ hK=>?_) AllReadyH.nil;go_simp;refine (HCom.out _).mono ?_;rintro e z2 ⟨rfl,a2⟩;refine hK.out _ _ (Zb hHeld a2) (fun hHeld=>?_);clear hK KQ;refine tkp 21 (.bool false) hHeld ?_;simp only [zq];refine tkp 22 (.bool false) hHeld ?_;simp only [zq];refine wpAnyH_done (by kernel_rfl) ?_ _;have HQz:=Za (Zb hbw hHeld)
       go_wp2_with fail
       exact ⟨⟨k+1,by omega,by go_num,HGS.out,HQz.out⟩,by simp [intOf];omega⟩
     ·have HBAD:Hid (b=false):=HBD.out k (by have:=HnE.out;omega) (fun hg=>hkb (by have:=hg.1;rw [HKe.out,hbit] at this;exact this))
      go_wp2_with fail
      refine wp_region_held_drew (S:=fun w'=>Kb wr w') (by kernel_rfl) (below_drewN (Below.refl _ _) 1) (fun hHeld=>?_);refine tkp 0 (.slice (some ⟨ge,off,none⟩) n c9) hHeld ?_;simp only [zq];refine tkp 1 (.int .i64 (k:Int)) hHeld ?_;simp only [zq];refine tkp 2 (.pointer (some ⟨ge,off+k * 33,none⟩)) hHeld ?_;simp only [zq];refine tkp 3 (.pointer (some ⟨ge,off+k * 33,none⟩)) hHeld ?_;simp only [zq];refine tkg 4 (.agg (B K1)) rfl (yieldsIf_load_mid rfl 34 (.tmp 92) rfl ge (off+k * 33) rfl (B K1).toList _ (fun w hS=>HRk.out _ hS) Tryz.underlying34 rfl HPLk.out) hHeld ?_;simp only [zq];refine tkp 5 (.int .i64 (d:Int)) hHeld ?_;simp only [zq];refine tkp 7 (.int .i64 1) hHeld ?_;simp only [zq];refine wpAnyH_ready (rs:=[6]) (by kernel_rfl) (by simp) ?_;refine AllReadyH.cons rfl (fun KQ hK=>?_) AllReadyH.nil;go_simp;refine (HBit.out _).mono ?_;rintro e z1 ⟨rfl,a1⟩;refine hK.out _ _ (Zb hHeld a1) (fun hHeld=>?_);clear hK KQ;refine tkp 8 (.bool true) hHeld ?_;simp only [zq];refine tkp 9 (.bool true) hHeld ?_;simp only [zq];refine tks 10 hHeld ?_;simp only [zq];refine tks 11 hHeld ?_;simp only [zq];refine tks 12 hHeld ?_;simp only [zq];refine tks 13 hHeld ?_;simp only [zq];refine tks 14 hHeld ?_;simp only [zq];refine tks 15 hHeld ?_;simp only [zq];refine tks 16 hHeld ?_;simp only [zq];refine tks 17 hHeld ?_;simp only [zq];refine tks 18 hHeld ?_;simp only [zq];refine tks 19 hHeld ?_;simp only [zq];refine tks 20 hHeld ?_;simp only [zq];refine tks 21 hHeld ?_;simp only [zq];refine tkp 22 (.bool true) hHeld ?_;simp only [zq];refine wpAnyH_done (by kernel_rfl) ?_ _;have HQz:=Za (Zb Hb12.out (Zb hbw hHeld))
      go_wp2_with fail
      go_ret;exact ⟨by rw [HBAD.out];rfl,HQz.out⟩
   ·obtain rfl:k=n:=by omega
    have z1: ¬(k:Int)<(k:Int):=by omega
    have HTR:Hid (b=true):=HGD.out (fun i hi=>hgs i (by have:=HnE.out;omega))
    go_wp2_with fail
    go_ret;exact ⟨by rw [HTR.out];rfl,Zb Hb12.out hbw⟩
end Go.Proofs.YtgfdgjkbcdmboaaGreatDoor
