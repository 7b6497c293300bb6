/- Law 12's examples: a store with a root of two leaves, held once; Check of it, of none, of it twice over. -/
import Derived.Test.YtgfdgjkbcdmboaaGreatDoorAc31
namespace Go.Proofs.YtgfdgjkbcdmboaaGreatDoor
set_option maxRecDepth 20000
open Go.RowKit
theorem Hs.au {w0 w:World} {S:List Nat} {g gs room:Nat} {cs:List (Nat×Ce)} {fr:List Nat} (h:Hs w0 S w g gs room cs fr):Au w (.pointer (some ⟨g,0,none⟩)) cs:=⟨h.vw,h.2,by
 obtain ⟨_,h2,h3⟩:=h.sizes
 omega,fun w' hb=>by
 obtain ⟨⟨vp,vf,s,_,_⟩,_⟩:=h.grow hb
 exact Yit s⟩
def Ax (w:World) (S:List Nat) (w':World) (g gs room r n:Nat) (es:List Ent):Prop:=∃cs fr T,Hs w S w' g gs room cs fr∧Rt cs r T∧T.ents.Perm es∧noc cs=n∧(∀i,own cs [] i=if r=i+1 then 1 else 0)∧cs.length≤n
theorem Ax.grow {w w' w'':World} {S:List Nat} {g gs room r n:Nat} {es:List Ent} (h:Ax w S w' g gs room r n es) (hb:Below w'.heap.size w' w''):Ax w S w'' g gs room r n es:=by
 obtain ⟨cs,fr,T,h1,h2⟩:=h
 exact ⟨cs,fr,T,h1.grow hb,h2⟩
theorem Ax.low {w w':World} {g gs room r n:Nat} {es:List Ent} (h:Ax w [] w' g gs room r n es):Below w.heap.size w w':=by
 obtain ⟨cs,fr,T,h1,h2⟩:=h
 exact h1.low
theorem Yfg {w w':World} {S:List Nat} {g gs room:Nat} (hL:Kq S w Laid) (H:Hs w S w' g gs room [] []) (K:List Int) (hK:Key K) (hr:258≤room):Calls Tryz.prog 135 #[.pointer (some ⟨g,0,none⟩),.int .i64 0,.agg (B K),.slice none 0 0] w' fun e w''=>∃r:Nat,e=.returned (.tuple #[.int .i64 (r:Int),.int .i64 0])∧Ax w S w'' g gs room r 1 [(K,[])]:=by
 obtain ⟨ss,hss,_⟩:=(Rt.zero []).bes Wf.new hK
 refine (Zxu H (Rt.zero []) hK (u:=.slice none 0 0) (bs:=[]) (fun _ _=>Reads.nil _) hL (by simp) (fun i=>by rw [Zyb];omega) (by show 0+258≤room;omega) hss).mono ?_
 rintro e w'' ⟨top,cs',fr',T',rfl,p,hh⟩
 obtain ⟨q1,q2,q3⟩:=Ycy hss p
 refine ⟨top,rfl,cs',fr',T',hh,p.rt,q1,by rw [q2];rfl,fun i=>?_,q3⟩
 have:=p.own i
 rw [Zyb,if_neg (show ¬0=i+1 by omega)] at this
 omega
theorem Yas {w w':World} {S:List Nat} {g gs room r:Nat} (hL:Kq S w Laid) {k:List Int} (H:Ax w S w' g gs room r 1 [(k,[])]) (K:List Int) (hK:Key K) (hne:k≠K) (c:Nat) (hc:IsCommon K k c) (hr:259≤room):Calls Tryz.prog 135 #[.pointer (some ⟨g,0,none⟩),.int .i64 (r:Int),.agg (B K),.slice none 0 0] w' fun e w''=>∃r':Nat,e=.returned (.tuple #[.int .i64 (r':Int),.int .i64 0])∧Ax w S w'' g gs room r' (c+3) [(K,[]),(k,[])]:=by
 obtain ⟨cs,fr,T,h1,h2,h3,h4,h5,h6⟩:=H
 obtain rfl:=h2.one h1.2 h3
 obtain ⟨ss,hss,_⟩:=h2.bes h1.2 hK
 refine (Zxu h1 h2 hK (u:=.slice none 0 0) (bs:=[]) (fun _ _=>Reads.nil _) hL (by simp) (fun i=>by rw [h5 i];split <;> omega) (by omega) hss).mono ?_
 rintro e w'' ⟨top,cs',fr',T',rfl,p,hh⟩
 obtain ⟨q1,q2,q3,q4⟩:=Zya hc hne hss p
 refine ⟨top,rfl,cs',fr',T',hh,p.rt,q1,by omega,fun i=>?_,by omega⟩
 have:=p.own i
 rw [h5 i] at this
 omega
set_option maxHeartbeats 4000000 in
theorem Ygn (w:World) (hL:Laid w):Calls Tryz.prog 78 #[] w fun e w'=>∃g gs r:Nat,e=.returned (.tuple #[.pointer (some ⟨g,0,none⟩),.int .i64 (r:Int)])∧Ax w [] w' g gs 600 r 3 [(kyB 128,[]),(z32,[])]:=by
 have HN:=Za (Ygb 600 w (by omega) (by omega))
 have kz:Key z32:=⟨rfl,Zbu⟩
 have k1:=Yih 128 (by omega) (by omega)
 have hne:z32≠kyB 128:=by decide
 have hc:IsCommon (kyB 128) z32 0:=⟨by omega,fun j hj=>by omega,fun _=>by decide⟩
 have HB0:=Za Yjl
 have HB1:=Za (Yfc 128)
 have H1:Hid (∀w' g gs,Hs w [] w' g gs 600 [] []→Calls Tryz.prog 135 #[.pointer (some ⟨g,0,none⟩),.int .i64 0,.agg (B z32),.slice none 0 0] w' fun e w''=>∃r:Nat,e=.returned (.tuple #[.int .i64 (r:Int),.int .i64 0])∧Ax w [] w'' g gs 600 r 1 [(z32,[])]):=fun w' g gs h=>Yfg (Yfx fun _ hb=>hL.grow hb) h z32 kz (by omega)
 have H2:Hid (∀w' g gs r,Ax w [] w' g gs 600 r 1 [(z32,[])]→Calls Tryz.prog 135 #[.pointer (some ⟨g,0,none⟩),.int .i64 (r:Int),.agg (B (kyB 128)),.slice none 0 0] w' fun e w''=>∃r':Nat,e=.returned (.tuple #[.int .i64 (r':Int),.int .i64 0])∧Ax w [] w'' g gs 600 r' 3 [(kyB 128,[]),(z32,[])]):=fun w' g gs r h=>Yas (Yfx fun _ hb=>hL.grow hb) h (kyB 128) k1 hne 0 hc (by omega)
 generalize z32=Z at HB0 H1 H2 ⊢
 generalize kyB 128=Y at HB1 H2 ⊢
 clear hL kz k1 hne hc
 go_enter Tryz.func78,Tryz.ntmps78
 go_wp2_with (first
  |(go_at_call 68;refine HN.out.mono ?_;rintro e w1 ⟨g,gs,rfl,h1⟩;have HH1:=Za h1;clear h1)
  |((with_reducible refine Zfi 12 ?_);refine Zai _ rfl _ _ rfl _ (by rw [List.map_toArray];exact HB0.out) ?_)
  |((with_reducible refine Zfi 19 ?_);refine Zai _ rfl _ _ rfl _ (by rw [List.map_toArray];exact HB1.out) ?_)
  |(go_at_call 135;have mk:=mp1;clear mk;refine (H2.out _ _ _ _ HA1.out).mono ?_;rintro e w4 ⟨r2,rfl,h4⟩;have HA2:=Za h4;clear h4)
  |(go_at_call 135;refine (H1.out _ _ _ HH1.out).mono ?_;rintro e w2 ⟨r1,rfl,h2⟩;have HA1:=Za h2;clear h2;have mp1:Hid True:=trivial))
 go_ret2
 exact ⟨g,gs,r2,rfl,HA2.out⟩
theorem Ygc {cs:List (Nat×Ce)} {r:Nat} (h:vRt true (cot cs r) (cat cs r) r=0):∀n,frE (cot cs) (cat cs) (zN (List.replicate n r))=0
 | 0=>rfl
 | n+1=>by
  show (if vRt true (cot cs r) (cat cs r) r=0 then _ else _)=0
  rw [if_pos h]
  exact Ygc h n
theorem Zxc {cs:List (Nat×Ce)} {r:Nat} {T:Tre} (h:Rt cs r T) (hl:r≠0→0<cc cs (r-1)) (n:Nat) (hn:n≤64):Rts cs (List.replicate n r):=⟨by
 rw [auE,if_neg (by rw [Zan,List.length_replicate];omega)]
 exact Ygc h.root n,fun x hx h0=>by
 obtain rfl:=(List.mem_replicate.1 hx).2
 exact hl h0⟩
theorem Zvf {w:World} {b:Nat} {R:List Nat} (n:Nat) (hB:Blk w b 3 (R.map fun (x:Nat)=>Value.int .i64 (x:Int)).toArray) (hn:n=R.length) (c:Nat):Zs w (.slice (some ⟨b,0,none⟩) n c) (zN R):=by
 refine ⟨some ⟨b,0,none⟩,c,by rw [Zan,hn],fun k hk=>⟨b,0,rfl,?_⟩⟩
 rw [Zan] at hk
 rw [hB.cell,Zqx R k hk]
 simp [hk]
theorem Zml {w w':World} {S:List Nat} {g gs room r:Nat} (h:Ax w S w' g gs room r 3 [(kyB 128,[]),(z32,[])]):∃cs,Au w' (.pointer (some ⟨g,0,none⟩)) cs∧(∀n,n≤64→Rts cs (List.replicate n r))∧(∀P,RdA cs [] P→(fnA cs P (slotsOf (cs.map pl))).length=3∧∀h∈fnA cs P (slotsOf (cs.map pl)),wnt P (h:Int)=0∧cc cs (h-1)=1)∧(∀P,RdA cs [r] P→fnA cs P (slotsOf (cs.map pl))=[])∧∀P,RdA cs [r,r] P→fnA cs P (slotsOf (cs.map pl))=[r]∧wnt P (r:Int)=2∧cc cs (r-1)=1:=by
 obtain ⟨cs,fr,T,h1,h2,h3,h4,h5,h6⟩:=h
 have W:=h1.2
 obtain ⟨r1,r2,r3,r4,r5⟩:=Ztf W h2.tree h2.dp h3 (by decide) (by decide) h6 h5
 have wa:∀n P,RdA cs (List.replicate n r) P→0<n→∀i,wnt P ((i+1:Nat):Int)=(if r=i+1 then n else 0)+ns cs i:=fun n P hP hn i=>by
  have:=Zld W hP (fun x hx h0=>by
   obtain rfl:=(List.mem_replicate.1 hx).2
   exact r2) (Znc W hP (fun i hi=>by
   rw [h5 i] at hi
   by_cases e:r=i+1
   ·rw [← e]
    exact List.mem_replicate.2 ⟨by omega,rfl⟩
   ·rw [if_neg e] at hi
    omega)) i
  rw [this,List.count_replicate]
  simp only [beq_iff_eq]
 have cw:∀i,cc cs i=ns cs i+(if r=i+1 then 1 else 0):=fun i=>by
  have c1:=W.own i
  have c2:=W.ab i
  rw [List.count_nil,h5 i] at c1
  omega
 refine ⟨cs,h1.au,fun n hn=>Zxc h2 (fun _=>r2) n hn,fun P hP=>?_,fun P hP=>?_,fun P hP=>?_⟩
 ·obtain rfl:=Ycs hP
  have e:fnA cs [] (slotsOf (cs.map pl))=slotsOf (cs.map pl):=by
   unfold fnA
   rw [List.filter_eq_self]
   intro x hx
   have:=((Zbn cs x).1 hx).2
   rw [Zot]
   simp
   omega
  rw [e]
  refine ⟨by rw [Zbi];exact r5,fun x hx=>⟨by rw [Zot],r4 _ ((Zbn cs x).1 hx).2⟩⟩
 ·unfold fnA
  rw [List.filter_eq_nil_iff]
  intro x hx
  obtain ⟨x0,hxc⟩:=(Zbn cs x).1 hx
  obtain ⟨i,rfl⟩:∃i,x=i+1:=⟨x-1,by omega⟩
  have e1:=wa 1 P hP (by omega) i
  have e2:=cw i
  rw [Nat.add_sub_cancel] at hxc ⊢
  rw [e1]
  simp only [decide_eq_true_eq,ne_eq,Classical.not_not]
  omega
 ·have hw2:wnt P (r:Int)=2:=by
   have:=wa 2 P hP (by omega) (r-1)
   rw [show r-1+1=r by omega,if_pos rfl,r3] at this
   exact this
  refine ⟨?_,hw2,r4 _ r2⟩
  have nd:(fnA cs P (slotsOf (cs.map pl))).Nodup:=(Zlj _).filter _
  have pm:(fnA cs P (slotsOf (cs.map pl))).Perm [r]:=(List.perm_ext_iff_of_nodup nd (by simp)).2 (fun x=>by
   rw [fnA,List.mem_filter,Zbn,List.mem_singleton]
   constructor
   ·rintro ⟨⟨x0,hxc⟩,hd⟩
    obtain ⟨i,rfl⟩:∃i,x=i+1:=⟨x-1,by omega⟩
    have e1:=wa 2 P hP (by omega) i
    have e2:=cw i
    rw [Nat.add_sub_cancel,e1] at hd
    simp only [decide_eq_true_eq,ne_eq] at hd
    apply Classical.byContradiction
    intro q
    rw [if_neg (fun z=>q z.symm)] at hd e2
    omega
   ·rintro rfl
    refine ⟨⟨by omega,r2⟩,?_⟩
    rw [hw2,r4 _ r2]
    rfl)
  exact List.perm_singleton.1 pm
theorem Zqg (cs:List (Nat×Ce)) (P:List Nat) (x:Nat) (L:List Nat):flF cs P (x::L)=.int .i64 (x:Int):: .int .i64 (wnt P (x:Int):Int):: .int .i64 (cc cs (x-1):Int)::flF cs P L:=rfl
theorem Yne (z0 z1 z2:Int) (w:World):(Op.equalIn 10000 49 (.agg #[.int .i64 z0,.int .i64 z1,.int .i64 z2]) (.agg #[.int .i64 z0,.int .i64 z1,.int .i64 z2])).run Tryz.prog w=.ok true w:=by
 have hf : ∃ f0 f1 f2 : Field, (Tryz.prog.fieldsOf 49).toList = [f0, f1, f2] ∧ (f0.name ≠ "_" ∧ f0.type = 3 ∧ f0.offset = 0) ∧ (f1.name ≠ "_" ∧ f1.type = 3 ∧ f1.offset = 1) ∧ (f2.name ≠ "_" ∧ f2.type = 3 ∧ f2.offset = 2) :=
  ⟨_,_,_,rfl,⟨by decide,rfl,rfl⟩,⟨by decide,rfl,rfl⟩,⟨by decide,rfl,rfl⟩⟩
 obtain ⟨f0,f1,f2,hF,⟨n0,t0,o0⟩,⟨n1,t1,o1⟩,⟨n2,t2,o2⟩⟩:=hf
 have hu:Tryz.prog.underlying 49=some (.struct (Tryz.prog.fieldsOf 49)):=by kernel_rfl
 have ek:∀z,(Op.equalIn 9999 3 (.int .i64 z) (.int .i64 z)).run Tryz.prog w=.ok true w:=fun z=>by rw [run_equalIn_int (P:=Tryz.prog) (w:=w) 9998 3 .i64 .i64 z z Tryz.underlying3];simp
 rw [run_equalIn_struct (P:=Tryz.prog) (w:=w) 9999 49 _ _ hu (by kernel_rfl),hF]
 have p:∀k (z:Int),(#[Value.int .i64 z0,.int .i64 z1,.int .i64 z2]:Array Value)[k]?=some (.int .i64 z)→(part 3 #[Value.int .i64 z0,.int .i64 z1,.int .i64 z2] k).run Tryz.prog w=.ok (.int .i64 z) w:=by
  intro k z hz
  unfold part
  rw [Sem.run_bind,Tryz.isAgg3 w]
  simp [hz]
 have p0:=p 0 z0 rfl
 have p1:=p 1 z1 rfl
 have p2:=p 2 z2 rfl
 rw [Op.eqFields,if_pos n0,Op.eqFields,if_pos n1,Op.eqFields,if_pos n2,Op.eqFields]
 simp [t0,t1,t2,o0,o1,o2,p0,p1,p2,ek,Sem.run_bind]
theorem Ygv:(Tryz.prog.info? 49).map (·.size)=some 3:=by kernel_rfl
set_option maxHeartbeats 4000000 in
theorem Zqq (w:World) (hL:Laid w):Calls Tryz.prog 30 #[] w fun e w'=>e=.returned (.bool true)∧Below w.heap.size w w':=by
 have HT:=Za (Ygn w hL)
 have HC1:Hid (∀w' b g gs r,Ax w [] w' g gs 600 r 3 [(kyB 128,[]),(z32,[])]→Blk w' b 3 #[.int .i64 (r:Int)]→Calls Tryz.prog 17 #[.pointer (some ⟨g,0,none⟩),.slice (some ⟨b,0,none⟩) 1 1] w' fun e w''=>∃a c,e=.returned (.tuple #[.slice a 0 c,.int .i64 0])∧Below w'.heap.size w' w''):=fun w' b g gs r h hB=>by
  obtain ⟨cs,A,hR,_,f1,_⟩:=Zml h
  refine (Zjt A (hR 1 (by omega)) (Zvf (R:=[r]) 1 hB rfl 1)).mono ?_
  rintro e w'' ⟨P,a,c,rfl,q1,q2,q3⟩
  rw [f1 P q1]
  exact ⟨a,c,rfl,q3⟩
 have HC0:Hid (∀w' g gs r,Ax w [] w' g gs 600 r 3 [(kyB 128,[]),(z32,[])]→Calls Tryz.prog 17 #[.pointer (some ⟨g,0,none⟩),.slice none 0 0] w' fun e w''=>∃b c,e=.returned (.tuple #[.slice (some ⟨b,0,none⟩) 3 c,.int .i64 0])∧w''.cell? ⟨b,1,none⟩=some (.int .i64 0)∧w''.cell? ⟨b,2,none⟩=some (.int .i64 1)∧Below w'.heap.size w' w''):=fun w' g gs r h=>by
  obtain ⟨cs,A,hR,f0,_,_⟩:=Zml h
  refine (Zjt A (hR 0 (by omega)) (Yjt w')).mono ?_
  rintro e w'' ⟨P,a,c,rfl,q1,q2,q3⟩
  obtain ⟨f2,f3⟩:=f0 P q1
  match hF:fnA cs P (slotsOf (cs.map pl)),f2,f3 with
  | x::L,f2,f3=>
   obtain ⟨g1,g2⟩:=f3 x (by simp)
   rw [hF,f2] at q2
   obtain ⟨b,c',e,_⟩:=Zax (Zt q2) (by omega)
   injection e with e1 e2 e3
   subst e1
   have z1:=Zay (Zt q2) 1 (by omega)
   have z2:=Zay (Zt q2) 2 (by omega)
   rw [Zqg] at z1 z2
   rw [g1] at z1
   rw [g2] at z2
   rw [f2]
   exact ⟨b,c,rfl,z1,z2,q3⟩
 have HC2:Hid (∀w' b g gs r,Ax w [] w' g gs 600 r 3 [(kyB 128,[]),(z32,[])]→Blk w' b 3 #[.int .i64 (r:Int),.int .i64 (r:Int)]→Calls Tryz.prog 17 #[.pointer (some ⟨g,0,none⟩),.slice (some ⟨b,0,none⟩) 2 2] w' fun e w''=>∃b c,e=.returned (.tuple #[.slice (some ⟨b,0,none⟩) 1 c,.int .i64 0])∧w''.rangeAt b 0 [.int .i64 (r:Int),.int .i64 2,.int .i64 1]∧Below w'.heap.size w' w''):=fun w' b g gs r h hB=>by
  obtain ⟨cs,A,hR,_,_,f0⟩:=Zml h
  refine (Zjt A (hR 2 (by omega)) (Zvf (R:=[r,r]) 2 hB rfl 2)).mono ?_
  rintro e w'' ⟨P,a,c,rfl,q1,q2,q3⟩
  obtain ⟨f1,f2,f3⟩:=f0 P q1
  rw [f1] at q2 ⊢
  obtain ⟨b,c',e,_⟩:=Zax (Zt q2) (by simp)
  injection e with e1 e2 e3
  subst e1
  refine ⟨b,c,rfl,fun j u hu=>?_,q3⟩
  have hj:j<3:=by
   have:=(List.getElem?_eq_some_iff.1 hu).1
   simpa using this
  rw [Nat.zero_add,Zay (Zt q2) j (by simp;omega),Zqg,f2,f3]
  exact hu
 have HEQ:=Za Yne
 clear hL
 generalize [(kyB 128,[]),(z32,([]:List Int))]=es at HT HC1 HC0 HC2
 go_enter Tryz.func30,Tryz.ntmps30
 go_wp2_with (first
  |(go_at_call 78;refine HT.out.mono ?_;rintro e w1 ⟨g,gs,r,rfl,h1⟩;have HA1:=Za h1;have HA2:=Za (h1.grow (Zd w1 (.cells #[.int .i64 (r:Int)] 3)));clear h1)
  |(go_at_call 17;have mk:=mk2;clear mk;refine (HC2.out _ _ _ _ _ HA5.out (Blk.new _ _ _)).mono ?_;rintro e w4 ⟨b2,c2,rfl,r4,b4⟩;have HR4:=Za r4;have HW4:=Za (Zb HA5.out.low b4);have z1:=Zp b4 (Zp (Zd w3 (.cells #[.int .i64 (r:Int),.int .i64 (r:Int)] 3)) HZ1.out);have z2:=Zp b4 (Zp (Zd w3 (.cells #[.int .i64 (r:Int),.int .i64 (r:Int)] 3)) HZ2.out);have hq:=HEQ.out (r:Int) 2 1;clear r4 b4)
  |((with_reducible refine Zk 75 74 ?_);refine Zbr _ rfl _ _ rfl b2 0 rfl [.int .i64 (r:Int),.int .i64 2,.int .i64 1] _ HR4.out Tryz.underlying49 rfl Ygv ?_)
  |(go_at_call 17;have mk:=mk1;clear mk;refine (HC0.out _ _ _ _ HA3.out).mono ?_;rintro e w3 ⟨b1,c1,rfl,z1,z2,b3⟩;have HZ1:=Za z1;have HZ2:=Za z2;have HA4:=Za (HA3.out.grow b3);have HA5:=Za ((HA3.out.grow b3).grow (Zd w3 (.cells #[.int .i64 (r:Int),.int .i64 (r:Int)] 3)));have mk2:Hid True:=trivial;clear z1 z2 b3)
  |(go_at_call 17;refine (HC1.out _ _ _ _ _ HA2.out (Blk.new _ _ _)).mono ?_;rintro e w2 ⟨a1,c0,rfl,b2⟩;have HA3:=Za (HA2.out.grow b2);have mk1:Hid True:=trivial;clear b2))
 go_ret
 exact ⟨rfl,HW4.out⟩
theorem Yky {cs:List (Nat×Ce)} {l:List Nat} (h:∀q∈l,q≠0):lvA (cat cs) l=l.filter (fun q=>decide ((ce cs (q-1)).kind=1))∧enA (cat cs) (lvA (cat cs) l)=(l.filter (fun q=>decide ((ce cs (q-1)).kind=1))).map fun q=>((ce cs (q-1)).key,(ce cs (q-1)).bs):=by
 have e:lvA (cat cs) l=l.filter (fun q=>decide ((ce cs (q-1)).kind=1)):=by
  unfold lvA
  refine List.filter_congr (fun q hq=>?_)
  rw [Zdf (by have:=h q hq;omega)]
 refine ⟨e,?_⟩
 rw [e]
 unfold enA
 refine List.map_congr_left (fun q hq=>?_)
 rw [Zdf (by have:=h q (List.mem_filter.1 hq).1;omega)]
set_option maxHeartbeats 4000000 in
theorem Ygu {w:World} {v:Value} {cs:List (Nat×Ce)} (A:Au w v cs) (hL:Laid w) {r:Nat} {T:Tre} (hr:Rt cs r T) (h4:T.ents.length≤4096):Calls Tryz.prog 28 #[v,.int .i64 (r:Int)] w fun e w'=>e=.returned (.tuple #[.bool true,.int .i64 0])∧Below w.heap.size w w':=by
 have hlv:r≠0→0<cc cs (r-1):=fun h0=>by
  rcases hr.tree.occ with e | e
  ·exact absurd e h0
  ·exact e.2
 have hR:=Zxc hr hlv 1 (by omega)
 have hA:=Zd w (.cells #[.int .i64 (r:Int)] 3)
 have HA:=Za hA
 have HLK:Hid (Calls Tryz.prog 60 #[v,.slice (some ⟨w.heap.size,0,none⟩) 1 1] (w.alloc (.cells #[.int .i64 (r:Int)] 3)) (LkPost cs [r] (w.alloc (.cells #[.int .i64 (r:Int)] 3)))):=Zmd (A.grow hA).vw A.wf A.le (.slice (some ⟨w.heap.size,0,none⟩) 1 1) [r] (Zvf (R:=[r]) 1 (Blk.new w 3 #[.int .i64 (r:Int)]) rfl 1) hR.ok hR.lv
 have HFA:Hid (∀P,RdA cs [r] P→(rch P).length≤65537∧(lvA (cat cs) (rch P)).length≤4096∧errB (enA (cat cs) (lvA (cat cs) (rch P)))=0∧rt 256 0 (enA (cat cs) (lvA (cat cs) (rch P)))=vDg true (cat cs) (r:Int)):=fun P h=>by
  have h1:=Zxr A.wf hR.lv h.rc
  have h2:=A.le
  obtain ⟨e1,e2⟩:=Yky (cs:=cs) (l:=rch P) (fun q hq=>((Zdi P q).1 hq).1)
  have pm:=Zzn A.wf hr.tree h
  rw [← e2] at pm
  have hlen:(lvA (cat cs) (rch P)).length=T.ents.length:=by
   have:=pm.length_eq
   rwa [enA,List.length_map] at this
  refine ⟨by omega,by omega,Zzk A.wf hr.tree pm h4,?_⟩
  rw [Yhf 256 0 _ _ pm]
  have hd:=(Zau A.wf T r hr.tree).dig 0 hr.dp
  rw [show 256-0=256 from rfl] at hd
  rw [← hd]
  unfold vDg sdD
  by_cases h0:r=0
  ·rw [if_pos h0,if_pos ⟨rfl,by omega⟩]
  ·rw [if_neg h0,if_neg (by omega),Zdf (by omega)]
 have HLV:Hid (∀w' a c M l,Below w.heap.size w w'→Lst w' 3 1 (.slice a M c) M (nats l)→M=l.length→M≤65537→Calls Tryz.prog 71 #[v,.slice a M c] w' fun e w''=>∃a' c',e=.returned (.slice a' (lvA (cat cs) l).length c')∧w''.ownsRow w'.heap.size 3 1 (.slice a' (lvA (cat cs) l).length c') (lvA (cat cs) l).length (nats (lvA (cat cs) l))∧Below w'.heap.size w' w''):=fun w' a c M l hb q1 q2 q3=>Zue (A.grow hb).vw a c M l q1 q2 q3
 have HEN:Hid (∀w' a c M l,Below w.heap.size w w'→Lst w' 3 1 (.slice a M c) M (nats l)→M=l.length→M≤4096→Calls Tryz.prog 73 #[v,.slice a M c] w' fun e w''=>∃v' V',e=.returned v'∧PrAt w'' v' V' (enA (cat cs) l)∧Below w'.heap.size w' w''):=fun w' a c M l hb q1 q2 q3=>Zqj (A.grow hb).vw a c M l q1 q2 q3
 have HRT:Hid (∀w' v' V' es,Below w.heap.size w w'→PrAt w' v' V' es→es.length≤4096→errB es=0→rt 256 0 es=vDg true (cat cs) (r:Int)→Calls Tryz.prog 72 #[v'] w' fun e w''=>e=.returned (.tuple #[.agg (B (vDg true (cat cs) (r:Int))),.int .i64 0])∧Below w'.heap.size w' w''):=fun w' v' V' es hb q1 q2 q3 q4=>by
  refine (Yfi v' V' es w' q1 (by omega) (hL.grow hb)).mono ?_
  rintro e w'' ⟨h,E,rfl,p1,p2⟩
  have q:=p1.one (RootIs.good (es:=es) (d:=0) (by omega) (by omega) q3 (fun _ _ _ _ j hj=>by simp at hj))
  rw [q.1,q.2,show rt (256-(0:Int).toNat) (0:Int).toNat es=rt 256 0 es from rfl,q4]
  exact ⟨rfl,p2⟩
 have HDG0:Hid (∀w',Below w.heap.size w w'→Calls Tryz.prog 74 #[v,.int .i64 (r:Int)] w' fun e w''=>e=.returned (.agg (B (vDg true (cat cs) (r:Int))))∧Below w'.heap.size w' w''):=fun w' hb=>Zlp (A.grow hb).vw (r:Int) (hL.grow hb)
 have hDl:=(Zov A.vw (r:Int)).1
 generalize vDg true (cat cs) (r:Int)=D at HRT HDG0 HFA hDl
 have HDL:=Za hDl
 have hE:=Yiu D D hDl hDl
 rw [decide_eq_true rfl] at hE
 generalize (r:Int)=z at *
 clear A hL hA hDl hr hlv hR h4
 go_enter Tryz.func28,Tryz.ntmps28
 go_wp2_with (first
  |(go_at_call 60;refine HLK.out.mono ?_;rintro e w1 ⟨P,slv,bm,n,rfl,r1,o1,m1,l1,b1⟩;obtain ⟨sa,sc,esl⟩:=Zi (Zt o1);subst esl;obtain ⟨f1,f2,f3,f4⟩:=HFA.out P r1;have HF1:=Za f1;have HF2:=Za f2;have HF3:=Za f3;have HF4:=Za f4;have HO1:=Za o1;have HP1:=Za b1;have HB1:=Za (Zb HA.out b1);clear r1 o1 m1 l1 b1 f1 f2 f3 f4)
  |((with_reducible refine Zv 6 ?_);refine Zg _ rfl _ rfl _ Zig ?_;intro w2 b6 hg1 hl1 B2 q2;have HB2:=Za B2;have HP2:=Za q2;have HG2:=Za hg1;clear hg1 hl1 B2 q2)
  |((with_reducible refine Zah 6 ?_);refine Zf _ rfl _ _ _ rfl b6 _ #[.slice sa (rch P).length sc,.map (some bm)] rfl rfl HB2.out Zfn rfl (by simp [Value.oneCell']) ?_;intro w3 B3 g3;have HP3:=Za (Ze HP2.out g3 HG2.out);have HQ3:=Za (Zb HB1.out HP3.out);have c0:=B3.cell 0;simp only [List.getElem?_toArray,List.getElem?_cons_zero] at c0;clear B3 g3)
  |(go_at_call 71;refine (HLV.out w3 sa sc _ (rch P) HQ3.out (Zt (Zl HO1.out HP3.out)) rfl HF1.out).mono ?_;rintro e w4 ⟨ka,kc,rfl,o4,b4⟩;have HO4:=Za o4;have HQ4:=Za (Zb HQ3.out b4);have nl4: ¬(4096:Int)<((lvA (cat cs) (rch P)).length:Int):=(by have:=HF2.out;omega);clear o4 b4)
  |(go_at_call 73;refine (HEN.out w4 ka kc _ (lvA (cat cs) (rch P)) HQ4.out (Zt HO4.out) rfl HF2.out).mono ?_;rintro e w5 ⟨v5,V5,rfl,p5,b5⟩;have HP5:=Za p5;have HQ5:=Za (Zb HQ4.out b5);clear p5 b5)
  |(go_at_call 72;refine (HRT.out w5 v5 V5 _ HQ5.out HP5.out (by rw [enA,List.length_map];exact HF2.out) HF3.out HF4.out).mono ?_;rintro e x4 ⟨rfl,b4⟩;have HX4:=Za (Zb HQ5.out b4);clear b4)
  |((with_reducible refine Zv 9 ?_);refine Zg _ rfl _ rfl _ Zab ?_;intro x5 b9 hg9 hl9 B9 q9;have HB9':=Za B9;have HX5:=Za (Zb HX4.out q9);have HG9:=Za (Nat.le_trans HX4.out.size hg9);clear hg9 hl9 B9 q9)
  |((with_reducible refine Zah 9 ?_);refine Zf _ rfl _ _ _ rfl b9 _ (B D) rfl rfl HB9'.out (by rw [Zm,HDL.out];exact Zy) (by rw [Zm,Zm,HDL.out,List.length_replicate]) (Zbe _) ?_;intro x6 B9 g9;have HB9:=Za B9;have HX6:=Za (Ze HX5.out g9 HG9.out);clear B9 g9))
 have HDG:Hid (∀w',Below x6.heap.size x6 w'→Calls Tryz.prog 74 #[v,.int .i64 z] w' fun e w''=>e=.returned (.agg (B D))∧Below w'.heap.size w' w''):=fun w' hb=>HDG0.out w' (Zb HX6.out hb)
 refine wp_region_held_drew (S:=fun w'=>Below x6.heap.size x6 w') (by kernel_rfl) (below_drewN (Below.refl _ _) 1) (fun hHeld=>?_)
 refine tkp 0 (.int .i64 0) hHeld ?_
 simp only [zq]
 refine tkp 1 (.bool true) hHeld ?_
 simp only [zq]
 refine tkp 2 (.bool true) hHeld ?_
 simp only [zq]
 refine tkp 3 v hHeld ?_
 simp only [zq]
 refine tkp 4 (.int .i64 z) hHeld ?_
 simp only [zq]
 refine tkg 6 (.agg (B D)) rfl (yieldsIf_load_mid rfl 121 (.tmp 9) rfl b9 0 rfl (B D).toList _ (fun w hS=>(HB9.out.grow hS).range) Tryz.underlying121 rfl (Ynd D HDL.out)) hHeld ?_
 simp only [zq]
 refine wpAnyH_ready (rs:=[5]) (by kernel_rfl) (by simp) ?_
 refine AllReadyH.cons rfl (fun KQ hK=>?_) AllReadyH.nil
 go_simp
 refine (HDG.out _ hHeld).mono ?_
 rintro e z1 ⟨rfl,a1⟩
 refine hK.out _ _ (Zb hHeld a1) (fun hHeld=>?_)
 clear hK KQ
 refine tkg 7 (.bool true) rfl (Or.inl ⟨by rfl,fun w hS=>by (go_simp;skip)⟩) hHeld ?_
 simp only [zq]
 refine tkp 8 (.bool true) hHeld ?_
 simp only [zq]
 refine tkp 9 (.bool true) hHeld ?_
 simp only [zq]
 refine tkp 10 (.int .i64 0) hHeld ?_
 simp only [zq]
 refine wpAnyH_done (by kernel_rfl) ?_ _
 go_wp2_with fail
 go_ret2
 exact ⟨rfl,Zb HX6.out hHeld⟩
theorem Ycg (ty:TypeId) (w:World) (base base2:Nat) (v1 v2:Value) (n1 n2:Nat) (xs1 xs2:List Value) (h1:w.ownsRow base 3 1 v1 n1 xs1) (h2:w.ownsRow base2 3 1 v2 n2 xs2) (hc:∀u∈xs2,u.oneCell'=true) (hn:n1+n2≤65536) (hbase:base≤w.heap.size):
  ∃v' w',(Builtin.append_ #[30,30] ty #[v1,v2]).run Tryz.prog w=.ok v' w'∧w'.ownsRow base 3 1 v' (n1+n2) (xs1++xs2)∧w.grownBy w' v1.ownBlock:=by
 obtain ⟨i,z,hi,hz,hsz,hby,hzs⟩:=Zae
 rcases h2.2 with ⟨rfl,rfl⟩ | ⟨g2,cap2,cur2,rfl,hb2,hg2,hnc2,hcm2,hcs2,ht2⟩
 ·have e:xs2=[]:=by have:=h2.1;simpa using this
  subst e
  refine ⟨v1,w,?_,by simpa using h1,World.grownBy.refl _ _⟩
  have ht:Tryz.prog.underlying 30=some (.slice 3):=Tryz.underlying30
  rcases h1.2 with ⟨rfl,rfl⟩ | ⟨g,cap,cur,rfl,hb,hg,hnc,hcm,hcs,htk⟩
  ·simp [Builtin.append_,run_underlying ht,sizeOf,typeInfo,hi,Builtin.lenOf,Builtin.firstCells]
  ·simp [Builtin.append_,run_underlying ht,sizeOf,typeInfo,hi,Builtin.lenOf,Builtin.firstCells,hnc,storeCells]
 ·obtain ⟨v',w',hr,q1,q2,_⟩:=run_append_own (P:=Tryz.prog) w base 30 ty 3 i z 1 8 Tryz.underlying30 hi hz hsz hby hzs (by omega) v1 n1 xs1 h1 ⟨g2,0,none⟩ n2 cap2 xs2 (by rw [h2.1]) (fun j u hu=>h2.cells (g:=g2) rfl j u hu) hc (by simp only [maxLen];omega) (by omega) hbase
  exact ⟨v',w',hr,q1,q2⟩
theorem Zor {ops:Array Oper} {rest:List Oper} {op:Oper} {a:Act} {Q:Exit→Act→World→Prop} (w:World) (hgd:op.guard=none) (ho:op.op=.buildSlice 30 0 #[])
  (hk:∀w' g,w.heap.size≤g→w'.ownsRow w.heap.size 3 1 (.slice (some ⟨g,0,none⟩) 0 0) 0 []→Below w.heap.size w w'→wpList Tryz.prog ops Q rest (a.put op.dst (.slice (some ⟨g,0,none⟩) 0 0)) w'):wpList Tryz.prog ops Q (op::rest) a w:=by
 refine wpList_plain hgd fun K hK=>?_
 obtain ⟨i,z,hi,hz,hs,_,hzs⟩:=Zae
 have ht:Tryz.prog.underlying 30=some (.slice 3):=Tryz.underlying30
 have hrun:(Instr.buildSlice 30 0 #[]).run Tryz.prog w=.ok (.slice (some ⟨w.heap.size,0,none⟩) 0 0) (w.alloc (.cells #[] 3)):=by
  have he:∀f:Nat→Value,Array.map f (Array.range 0)= #[]:=fun f=>Array.eq_empty_of_size_eq_zero (by simp)
  simp [Instr.buildSlice,run_underlying ht,sizeOf,typeInfo,hi,Instr.fill,newRow,he]
 unfold Oper.wp execOp
 simp only [ho,List.map_toArray,List.map_nil,Sem.run_bind,hrun,Result.andThen_ok,Sem.run_pure]
 refine hK _ _ (hk _ w.heap.size (Nat.le_refl _) ⟨rfl,.inr ⟨w.heap.size,0, #[],rfl,Nat.le_refl _,Blk.new _ _ _,Nat.le_refl _,by simp only [maxLen];omega,rfl,rfl⟩⟩ (Zd w _))
theorem Zfk {ops:Array Oper} {rest:List Oper} {o:Oper} {a:Act} {Q:Exit→Act→World→Prop} (w:World) (hgd:o.guard=none) (s x:Operand)
  (hop:o.op=.call { callee:=.builtin .append,args:= #[s,x],argTypes:= #[30,30]})
  (base base2:Nat) (v1 v2:Value) (n1 n2:Nat) (xs1 xs2:List Value) (hs:a.eval s=v1) (hx:a.eval x=v2) (h1:w.ownsRow base 3 1 v1 n1 xs1) (h2:w.ownsRow base2 3 1 v2 n2 xs2) (hc:∀u∈xs2,u.oneCell'=true) (hn:n1+n2≤65536) (hbase:base≤w.heap.size)
  (hk:∀v' w',w'.ownsRow base 3 1 v' (n1+n2) (xs1++xs2)→w.grownBy w' v1.ownBlock→wpList Tryz.prog ops Q rest (a.put o.dst v') w'):wpList Tryz.prog ops Q (o::rest) a w:=by
 refine wpList_plain hgd fun K hK=>?_
 obtain ⟨v',w',hr,q1,q2⟩:=Ycg o.type w base base2 v1 v2 n1 n2 xs1 xs2 h1 h2 hc hn hbase
 unfold Oper.wp execOp
 simp only [hop,resolve,invoke,builtin,Sem.run_bind,Sem.run_pure,Result.andThen_ok,List.map_toArray,List.map_cons,List.map_nil,hs,hx,hr]
 exact hK _ _ (hk v' w' q1 q2)
structure Sp where
 kind:Int
 d:Nat
 key:List Int
 val:Value
 bs:List Int
 l:Nat
 r:Nat
 own:Nat
 sd:Nat
def zs7:Sp:=⟨0,0,z32,.slice none 0 0,[],0,0,0,0⟩
def sz7 (s:Sp):List Value:=.int .u8 s.kind:: .int .i64 (s.d:Int)::(encP s.key s.val++[.int .i64 (s.l:Int),.int .i64 (s.r:Int),.int .i64 (s.own:Int),.int .i64 (s.sd:Int)])
theorem Zw (s:Sp) (h:s.key.length=32):(sz7 s).length=39:=by simp [sz7,Zx _ _ h]
theorem Zbv (s:Sp) (h:s.key.length=32):(sz7 s)[0]?=some (.int .u8 s.kind)∧(sz7 s)[1]?=some (.int .i64 (s.d:Int))∧(sz7 s)[34]?=some s.val∧(sz7 s)[35]?=some (.int .i64 (s.l:Int))∧(sz7 s)[36]?=some (.int .i64 (s.r:Int))∧(sz7 s)[37]?=some (.int .i64 (s.own:Int))∧(sz7 s)[38]?=some (.int .i64 (s.sd:Int)):=by
 have hl:=Zx s.key s.val h
 have hk:(s.key.map (Value.int .u8)).length=32:=by simp [h]
 unfold sz7
 refine ⟨rfl,rfl,?_,?_,?_,?_,?_⟩
 ·show (encP s.key s.val++_)[32]?=_
  rw [List.getElem?_append_left (by omega)]
  unfold encP
  rw [List.getElem?_append_right (by omega),hk]
  rfl
 ·show (encP s.key s.val++_)[33]?=_
  rw [List.getElem?_append_right (by omega),hl];rfl
 ·show (encP s.key s.val++_)[34]?=_
  rw [List.getElem?_append_right (by omega),hl];rfl
 ·show (encP s.key s.val++_)[35]?=_
  rw [List.getElem?_append_right (by omega),hl];rfl
 ·show (encP s.key s.val++_)[36]?=_
  rw [List.getElem?_append_right (by omega),hl];rfl
structure SpOk (s:Sp):Prop where
 hk:Key s.key
 vs:∃a c,s.val=.slice a s.bs.length c
theorem Zhh:SpOk zs7:=⟨Zsz.hk,⟨none,0,rfl⟩⟩
theorem Zcf {s:Sp} (h:SpOk s):∀v∈sz7 s,v.oneCell'=true:=fun v hv=>by
 obtain ⟨a,c,e⟩:=h.vs
 unfold sz7 encP at hv
 rw [e] at hv
 simp only [List.mem_cons,List.mem_append,List.mem_map,List.not_mem_nil,or_false] at hv
 rcases hv with rfl | rfl | (⟨_,_,rfl⟩ | rfl) | rfl | rfl | rfl | rfl <;> rfl
def spAt (ss:List Sp) (i:Nat):Sp:=ss[i]?.getD zs7
def sat (ss:List Sp) (h:Int):Sp:=if 1≤h then spAt ss (h-1).toNat else zs7
theorem Zsk:∀(ss:List Sp),(∀s∈ss,s.key.length=32)→∀(i:Nat) (hi:i<ss.length) (j:Nat) (v:Value),(sz7 ss[i])[j]?=some v→(ss.flatMap sz7)[i * 39+j]?=some v
 | [],_,i,hi,_,_,_=>by simp at hi
 | s::ss,h,0,_,j,v,hv=>by
  rw [List.flatMap_cons,Nat.zero_mul,Nat.zero_add]
  have hlt:j<(sz7 s).length:=(List.getElem?_eq_some_iff.1 hv).1
  rw [List.getElem?_append_left hlt]
  exact hv
 | s::ss,h,i+1,hi,j,v,hv=>by
  rw [List.flatMap_cons]
  have hl:=Zw s (h s (by simp))
  rw [List.getElem?_append_right (by rw [hl];omega),hl,show (i+1) * 39+j-39=i * 39+j by omega]
  exact Zsk ss (fun s hs=>h s (List.mem_cons_of_mem _ hs)) i (by simpa using hi) j v hv
structure Rs (w:World) (g:Nat) (vp vf:Value) (room:Nat) (ss:List Sp) (fr:List Nat):Prop where
 blk:Blk w g 80 #[.bool true,.int .i64 (room:Int),vp,vf]
 sps:Lst w 154 39 vp ss.length (ss.flatMap sz7)
 frs:Lst w 3 1 vf fr.length (nats fr)
 vals:∀s∈ss,∃sp,Own 0 w s.val s.bs sp
 ok:∀s∈ss,SpOk s
 zero:∀s∈ss,s.kind=0→s=zs7
 few:ss.length≤65536∧fr.length≤65536
def rsB (g:Nat) (vp vf:Value) (ss:List Sp):List Nat:=g::(vp.ownBlock.toList++(vf.ownBlock.toList++ss.flatMap fun s=>s.val.ownBlock.toList))
theorem Zu {g:Nat} {vp vf:Value} {ss:List Sp} {k:Nat}:k∈rsB g vp vf ss↔k=g∨vp.ownBlock=some k∨vf.ownBlock=some k∨∃s∈ss,s.val.ownBlock=some k:=by simp [rsB]
theorem Rs.mod {w w':World} {g:Nat} {vp vf:Value} {room:Nat} {ss:List Sp} {fr:List Nat} {S:List Nat} (h:Rs w g vp vf room ss fr) (m:Mod S w w') (hn:∀k∈rsB g vp vf ss,k ∉ S):Rs w' g vp vf room ss fr:=
 ⟨h.blk.mod m (hn g (Zu.2 (.inl rfl))),Zbc h.sps m (fun k hk=>hn k (Zu.2 (.inr (.inl hk)))),Zbc h.frs m (fun k hk=>hn k (Zu.2 (.inr (.inr (.inl hk))))),fun s hs=>by
  obtain ⟨sp,ho⟩:=h.vals s hs
  exact ⟨sp,ho.mod m (fun k hk=>hn k (Zu.2 (.inr (.inr (.inr ⟨s,hs,hk⟩)))))⟩,h.ok,h.zero,h.few⟩
theorem Rs.grow {w w':World} {g:Nat} {vp vf:Value} {room:Nat} {ss:List Sp} {fr:List Nat} (h:Rs w g vp vf room ss fr) (hb:Below w.heap.size w w'):Rs w' g vp vf room ss fr:=h.mod (Mod.of_below hb []) (fun _ _ h=>by cases h)
theorem Rs.lts {w:World} {g:Nat} {vp vf:Value} {room:Nat} {ss:List Sp} {fr:List Nat} (h:Rs w g vp vf room ss fr):∀k∈rsB g vp vf ss,k<w.heap.size:=fun k hk=>by
 rcases Zu.1 hk with rfl | hk | hk | ⟨s,hs,hk⟩
 ·exact h.blk.lt
 ·exact Zec h.sps k hk
 ·exact Zec h.frs k hk
 ·obtain ⟨sp,ho⟩:=h.vals s hs
  exact (ho.lt k hk).2
theorem Rs.c0 {w:World} {g:Nat} {vp vf:Value} {room:Nat} {ss:List Sp} {fr:List Nat} (h:Rs w g vp vf room ss fr):w.cell? ⟨g,0,none⟩=some (.bool true):=by rw [h.blk.cell];rfl
theorem Rs.c1 {w:World} {g:Nat} {vp vf:Value} {room:Nat} {ss:List Sp} {fr:List Nat} (h:Rs w g vp vf room ss fr):w.cell? ⟨g,1,none⟩=some (.int .i64 (room:Int)):=by rw [h.blk.cell];rfl
theorem Rs.c2 {w:World} {g:Nat} {vp vf:Value} {room:Nat} {ss:List Sp} {fr:List Nat} (h:Rs w g vp vf room ss fr):w.cell? ⟨g,2,none⟩=some vp:=by rw [h.blk.cell];rfl
theorem Rs.c3 {w:World} {g:Nat} {vp vf:Value} {room:Nat} {ss:List Sp} {fr:List Nat} (h:Rs w g vp vf room ss fr):w.cell? ⟨g,3,none⟩=some vf:=by rw [h.blk.cell];rfl
theorem Rs.range {w:World} {g b n c:Nat} {vf:Value} {room:Nat} {ss:List Sp} {fr:List Nat} (h:Rs w g (.slice (some ⟨b,0,none⟩) n c) vf room ss fr) (i:Nat) (hi:i<ss.length):w.rangeAt b (i * 39) (sz7 (spAt ss i)):=fun j v hv=>by
 have e:spAt ss i=ss[i]:=by simp [spAt,hi]
 rw [e] at hv
 have h1:=Zsk ss (fun s hs=>(h.ok s hs).hk.1) i hi j v hv
 have hlt:i * 39+j<(ss.flatMap sz7).length:=(List.getElem?_eq_some_iff.1 h1).1
 have h0:=h.sps
 obtain ⟨_,_,e2⟩:=Zi h0
 injection e2 with _ e2 _
 subst e2
 rw [Zay h0 (i * 39+j) (by rw [← h0.1];exact hlt)]
 exact h1
theorem Zco {w:World} {g:Nat} {vp vf:Value} {room:Nat} {ss:List Sp} {fr:List Nat} (h:Rs w g vp vf room ss fr) (i:Nat):SpOk (spAt ss i):=by
 unfold spAt
 by_cases hi:i<ss.length
 ·rw [List.getElem?_eq_getElem hi]
  exact h.ok _ (List.getElem_mem hi)
 ·rw [List.getElem?_eq_none (by omega)]
  exact Zhh
theorem Zcd {w:World} {g:Nat} {vp vf:Value} {room:Nat} {ss:List Sp} {fr:List Nat} (h:Rs w g vp vf room ss fr) (q:Int):SpOk (sat ss q):=by
 unfold sat
 split
 ·exact Zco h _
 ·exact Zhh
set_option maxHeartbeats 400000 in
theorem Zag (g:Nat) (w:World) (hc:w.cell? ⟨g,0,none⟩=some (.bool true)):Calls Tryz.prog 83 #[.pointer (some ⟨g,0,none⟩)] w fun e w'=>e=.returned (.bool false)∧w'=w:=by
 go_enter Tryz.func83,Tryz.ntmps83
 go_wp2
 go_ret
 exact ⟨rfl,rfl⟩
set_option maxHeartbeats 1000000 in
theorem Zbw {w:World} {g:Nat} {vp vf:Value} {room:Nat} {ss:List Sp} {fr:List Nat} (h:Rs w g vp vf room ss fr) (q:Int):Calls Tryz.prog 84 #[.pointer (some ⟨g,0,none⟩),.int .i64 q] w fun e w'=>e=.returned (.bool (decide ((sat ss q).kind≠0)))∧w'=w:=by
 have c0:=h.c0
 have c2:=h.c2
 obtain ⟨a,c,rfl⟩:=Zi h.sps
 by_cases h1:1≤q
 ·by_cases h2:q≤(ss.length:Int)
  ·obtain ⟨i,hi⟩:∃i:Nat,q-1=(i:Int):=⟨(q-1).toNat,by omega⟩
   have hil:i<ss.length:=by omega
   obtain ⟨b,c',e,hc⟩:=Zax h.sps (by omega)
   injection e with e1 _ e3
   subst e1
   subst e3
   have hr:=h.range i hil
   have hk:w.cell? ⟨b,i * 39,none⟩=some (.int .u8 (spAt ss i).kind):=by
    have:=hr 0 _ (Zbv (spAt ss i) (Zco h i).hk.1).1
    rwa [Nat.add_zero] at this
   have hs:sat ss q=spAt ss i:=by
    unfold sat
    rw [if_pos h1,show (q-1).toNat=i by omega]
   rw [hs]
   have hf:=h.few
   have hw:wrap64 (i:Int)=(i:Int):=Go.IntWalk.wrap64_in _ (by omega)
   have i0:(0:Int)≤(i:Int):=by omega
   have i1:(i:Int)<(ss.length:Int):=by omega
   generalize (spAt ss i).kind=K at hk ⊢
   clear h hr hs hf
   go_enter Tryz.func84,Tryz.ntmps84
   go_wp2_with (go_at_call 83;refine (Zag g _ c0).mono ?_;rintro e w' ⟨rfl,hx⟩;rw [hx];clear hx w')
   go_ret
   exact ⟨by simp;rfl,rfl⟩
  ·have hs:sat ss q=zs7:=by
    unfold sat spAt
    rw [if_pos h1,List.getElem?_eq_none (by omega)]
    rfl
   rw [hs]
   clear h hs
   go_enter Tryz.func84,Tryz.ntmps84
   go_wp2_with (go_at_call 83;refine (Zag g _ c0).mono ?_;rintro e w' ⟨rfl,hx⟩;rw [hx];clear hx w')
   go_ret
   exact ⟨rfl,rfl⟩
 ·have hs:sat ss q=zs7:=by
   unfold sat
   rw [if_neg h1]
  rw [hs]
  clear h hs
  go_enter Tryz.func84,Tryz.ntmps84
  go_wp2_with (go_at_call 83;refine (Zag g _ c0).mono ?_;rintro e w' ⟨rfl,hx⟩;rw [hx];clear hx w')
  go_ret
  exact ⟨rfl,rfl⟩
theorem Zcw:∀w,(zeroValue 154).run Tryz.prog w=.ok (.agg (sz7 zs7).toArray) w:=zero_of_info (n:=39) (by kernel_rfl) |>.1
theorem Zbo:(Tryz.prog.info? 154).map (·.size)=some 39:=by kernel_rfl
theorem Zkw:Tryz.prog.built 154 []=some (sz7 zs7).toArray:=by kernel_rfl
set_option maxHeartbeats 1000000 in
theorem Zbf {w:World} {g:Nat} {vp vf:Value} {room:Nat} {ss:List Sp} {fr:List Nat} (h:Rs w g vp vf room ss fr) (q:Int):Calls Tryz.prog 107 #[.pointer (some ⟨g,0,none⟩),.int .i64 q] w fun e w'=>e=.returned (.agg (sz7 (sat ss q)).toArray)∧Below w.heap.size w w':=by
 have HS:Hid (∀w',Below w.heap.size w w'→Rs w' g vp vf room ss fr):=fun w' hb=>h.grow hb
 have HO:=Za (Zcd h q)
 have HH:Hid (∀w',Below w.heap.size w w'→Calls Tryz.prog 84 #[.pointer (some ⟨g,0,none⟩),.int .i64 q] w' fun e w''=>e=.returned (.bool (decide ((sat ss q).kind≠0)))∧w''=w'):=fun w' hb=>Zbw (h.grow hb) q
 by_cases hz:(sat ss q).kind=0
 ·have hs:sat ss q=zs7:=by
   unfold sat at hz ⊢
   split at hz
   ·next h1=>
    rw [if_pos h1]
    unfold spAt at hz ⊢
    by_cases hi:(q-1).toNat<ss.length
    ·rw [List.getElem?_eq_getElem hi] at hz ⊢
     exact h.zero _ (List.getElem_mem hi) hz
    ·rw [List.getElem?_eq_none (by omega)]
     rfl
   ·next h1=>rw [if_neg h1]
  have hd:decide ((sat ss q).kind≠0)=false:=by simp [hz]
  rw [hd] at HH
  rw [hs]
  have HL:Hid ((Tryz.prog.info? 154).map (·.size)=some (sz7 zs7).toArray.size):=Zbo
  have HB:=Za Zkw
  have H1:=Za (Zcf Zhh)
  have HZ:=Za Zcw
  generalize sz7 zs7=Z at HL HB H1 HZ ⊢
  clear h HS HO hz hs hd
  go_enter Tryz.func107,Tryz.ntmps107
  go_wp2_with (first
   |((with_reducible refine Zv 4 ?_);refine Zg _ rfl _ rfl _ HZ.out ?_;intro w1 b4 hg4 hl4 B4 b1;have HB4:=Za B4;have Hg4:=Za hg4;clear B4 hg4 hl4)
   |(go_at_call 84;refine (HH.out _ b1).mono ?_;rintro e w' ⟨rfl,hx⟩;rw [hx];clear hx w')
   |((with_reducible refine Zfi 9 ?_);refine Zai _ rfl _ _ rfl _ (by rw [List.map_toArray];exact HB.out) ?_)
   |((with_reducible refine Zah 4 ?_);refine Zf _ rfl _ _ _ rfl b4 _ Z.toArray rfl rfl HB4.out HL.out rfl (all_oneCell_toArray H1.out) ?_;intro w5 B6 g6))
  exact bodyPost_ret (v:=.agg Z.toArray) (results_cell_row rfl _ _ b4 _ _ _ _ rfl B6 Tryz.underlying154 rfl HL.out) rfl ⟨rfl,Ze b1 g6 Hg4.out⟩
 ·have hd:decide ((sat ss q).kind≠0)=true:=by simp [hz]
  rw [hd] at HH
  obtain ⟨i,hi,hil⟩:∃i:Nat,q-1=(i:Int)∧i<ss.length:=by
   by_cases h1:1≤q
   ·refine ⟨(q-1).toNat,by omega,?_⟩
    apply Nat.lt_of_not_le
    intro hn
    apply hz
    unfold sat spAt
    rw [if_pos h1,List.getElem?_eq_none hn]
    rfl
   ·exact absurd (by unfold sat;rw [if_neg h1];rfl) hz
  have hs:sat ss q=spAt ss i:=by
   unfold sat
   rw [if_pos (by omega),show (q-1).toNat=i by omega]
  rw [hs] at HO ⊢
  obtain ⟨b,c,hv,hc⟩:=Zax h.sps (by omega)
  subst hv
  have HR:Hid (∀w',Below w.heap.size w w'→w'.rangeAt b (i * 39) (sz7 (spAt ss i))):=fun w' hb=>(h.grow hb).range i hil
  have HL:Hid ((Tryz.prog.info? 154).map (·.size)=some (sz7 (spAt ss i)).length):=by
   show _=_
   rw [Zw _ HO.out.hk.1]
   exact Zbo
  have HL2:Hid ((Tryz.prog.info? 154).map (·.size)=some (sz7 (spAt ss i)).toArray.size):=HL.out
  have HL3:Hid ((sz7 zs7).toArray.size=(sz7 (spAt ss i)).toArray.size):=by
   show (sz7 zs7).length=(sz7 (spAt ss i)).length
   rw [Zw _ HO.out.hk.1]
   rfl
  have H1:=Za (Zcf HO.out)
  have HZ:=Za Zcw
  generalize sz7 zs7=Z at HL3 HZ
  generalize sz7 (spAt ss i)=X at HR HL HL2 HL3 H1 ⊢
  have hf:=h.few
  have hw:wrap64 (i:Int)=(i:Int):=Go.IntWalk.wrap64_in _ (by omega)
  have i0:(0:Int)≤(i:Int):=by omega
  have i1:(i:Int)<(ss.length:Int):=by omega
  clear h HO hz hd hs hf
  go_enter Tryz.func107,Tryz.ntmps107
  go_wp2_with (first
   |((with_reducible refine Zv 4 ?_);refine Zg _ rfl _ rfl _ HZ.out ?_;intro w1 b4 hg4 hl4 B4 b1;have c0:=(HS.out _ b1).c0;have c2:=(HS.out _ b1).c2;have HB4:=Za B4;have Hg4:=Za hg4;clear B4 hg4 hl4)
   |(go_at_call 84;refine (HH.out _ b1).mono ?_;rintro e w' ⟨rfl,hx⟩;rw [hx];clear hx w')
   |((with_reducible refine Zk 17 16 ?_);refine wpList_load_mid rfl _ _ rfl b (i * 39) rfl X _ (HR.out _ b1) Tryz.underlying154 rfl HL.out ?_)
   |((with_reducible refine Zah 4 ?_);refine Zf _ rfl _ _ _ rfl b4 _ X.toArray rfl rfl HB4.out HL2.out HL3.out (all_oneCell_toArray H1.out) ?_;intro w5 B6 g6))
  exact bodyPost_ret (v:=.agg X.toArray) (results_cell_row rfl _ _ b4 _ _ _ _ rfl B6 Tryz.underlying154 rfl HL2.out) rfl ⟨rfl,Ze b1 g6 Hg4.out⟩
end Go.Proofs.YtgfdgjkbcdmboaaGreatDoor
