/- The document's store: a node without holds becomes free, and what it alone held: the whole of it. -/
import Derived.Test.YtgfdgjkbcdmboaaGreatDoorAc38
namespace Go.Proofs.YtgfdgjkbcdmboaaGreatDoor
set_option maxRecDepth 20000
open Go.RowKit
theorem Run.frlen {cs:List (Nat×Ce)} {fr st:List Nat} {cs':List (Nat×Ce)} {fr':List Nat} {n:Nat} (h:Run cs fr st cs' fr' n):fr'.length=fr.length+n:=by
 induction h with
 | done=>rfl
 | keep _ _ ih=>exact ih
 | free _ _ ih=>rw [ih,List.length_append,List.length_singleton];omega
theorem Yif (cs:List (Nat×Ce)) (i j:Nat):cc (lessC cs i) j≤cc cs j:=by
 by_cases hi:i<cs.length
 ·unfold lessC
  rw [Zep cs i j _ hi]
  split
  ·next e=>rw [e];exact Nat.sub_le _ _
  ·exact Nat.le_refl _
 ·unfold lessC
  rw [List.set_eq_of_length_le (by omega)]
  exact Nat.le_refl _
theorem Zzf (cs:List (Nat×Ce)) (i j:Nat) (hi:i<cs.length):cc (freeC cs i) j≤cc cs j:=by
 unfold freeC
 rw [(Zgg _ _).cc,(Zgg _ _).cc,Zep cs i j _ hi]
 split
 ·exact Nat.zero_le _
 ·exact Nat.le_refl _
theorem Run.cc_le {cs:List (Nat×Ce)} {fr st:List Nat} {cs':List (Nat×Ce)} {fr':List Nat} {n:Nat} (h:Run cs fr st cs' fr' n) (j:Nat):cc cs' j≤cc cs j:=by
 induction h with
 | done=>exact Nat.le_refl _
 | keep _ _ ih=>exact Nat.le_trans ih (Yif _ _ _)
 | free hc _ ih=>exact Nat.le_trans ih (Zzf _ _ _ (Zbd (by omega)))
theorem Run.step2 {cs:List (Nat×Ce)} {fr st:List Nat} {cs':List (Nat×Ce)} {fr':List Nat} {n:Nat} (h:Run cs fr st cs' fr' n):∀rest,Wf cs (st++rest)→Step cs (st++rest) cs' rest n:=by
 induction h with
 | done cs fr=>exact fun rest h=>⟨h,rfl,fun _=>rfl,rfl,fun _ hi=>⟨hi,Core.refl _⟩⟩
 | keep hc _ ih=>
  intro rest h
  have s:=Zfv (st:=_++rest) h hc
  have:=s.trans (ih rest s.wf)
  rwa [Nat.zero_add] at this
 | @free _ _ _ _ _ _ m hc _ ih=>
  intro rest h
  have s:=Zef (st:=_++rest) h hc
  simp only [List.append_assoc] at ih
  have:=s.trans (ih rest s.wf)
  rw [Nat.add_comm 1 m] at this
  exact this
theorem Rq.cell {w:World} {S:List Nat} {g room:Nat} {ss:List Sp} {fr:List Nat} {b5:Nat} {X:Array Value} {wr:World} (h:Rq w S g room ss fr b5 X wr) (j:Nat):wr.cell? ⟨b5,j,none⟩=X[j]?:=by
 obtain ⟨_,_,_,_,_,h4,_⟩:=h
 exact h4.cell j
theorem Zsh {w w2 w3 w5:World} {g b nn c nf fc room i b5 c5:Nat} {fa a5:Option Addr} {ss:List Sp} {fr:List Nat} {X:Array Value} {q:Int} (_h:Rs w g (.slice (some ⟨b,0,none⟩) nn c) (.slice fa nf fc) room ss fr) (hb:Below w.heap.size w w2) (hn:b5 ∉ rsB g (.slice (some ⟨b,0,none⟩) nn c) (.slice fa nf fc) ss) (hX:Blk w3 b5 154 X) (m3:Mod [b] w2 w3) (h4:Rs (w3.alloc (.cells #[.int .i64 q] 3)) g (.slice (some ⟨b,0,none⟩) nn c) (.slice fa nf fc) room (ss.set i zs7) fr) (l5:Lst w5 3 1 (.slice a5 (nf+1) c5) (nf+1) (nats fr++[.int .i64 q])) (g5:(w3.alloc (.cells #[.int .i64 q] 3)).grownBy w5 (Value.slice fa nf fc).ownBlock) (wh:WhereL (w3.alloc (.cells #[.int .i64 q] 3)) (.slice fa nf fc) (.slice a5 (nf+1) c5)) (hf:nf=fr.length) (hq:q=(i:Int)+1) (h6:nf+1≤65536):Rq w (rsB g (.slice (some ⟨b,0,none⟩) nn c) (.slice fa nf fc) ss) g room (ss.set i zs7) (fr++[i+1]) b5 X (w5.setCell ⟨g,3,none⟩ (.slice a5 (nf+1) c5)):=by
 subst hf hq
 have b4:=Zd w3 (.cells #[.int .i64 ((i:Int)+1)] 3)
 have hl:Lst w5 3 1 (.slice a5 (fr.length+1) c5) (fr++[i+1]).length (nats (fr++[i+1])):=by
  rw [Zap,List.length_append,List.length_singleton]
  exact l5
 obtain ⟨r1,r2⟩:=h4.newF (fr':=fr++[i+1]) hl g5 rfl (by rw [List.length_append,List.length_singleton];exact h6)
 have hin:∀k∈g::(Value.slice fa fr.length fc).ownBlock.toList,k∈rsB g (.slice (some ⟨b,0,none⟩) nn c) (.slice fa fr.length fc) ss:=fun k hk=>by
  rcases List.mem_cons.1 hk with rfl | hk
  ·exact Zu.2 (.inl rfl)
  ·exact Zu.2 (.inr (.inr (.inl (Option.mem_toList.1 hk))))
 have hb':∀k∈[b],k∈rsB g (.slice (some ⟨b,0,none⟩) nn c) (.slice fa fr.length fc) ss:=fun k hk=>by
  obtain rfl:k=b:=by simpa using hk
  exact Zu.2 (.inr (.inl rfl))
 have m:Mod (rsB g (.slice (some ⟨b,0,none⟩) nn c) (.slice fa fr.length fc) ss) w (w5.setCell ⟨g,3,none⟩ (.slice a5 (fr.length+1) c5)):=(((Mod.of_below hb _).trans' (m3.mono hb')).trans' (Mod.of_below b4 _)).trans' (r2.mono hin)
 have hX4:=hX.grow b4
 refine ⟨_,_,r1,m,fun k hk=>?_,hX4.mod r2 (fun e=>hn (hin _ e)),fun e=>?_⟩
 ·rcases Zu.1 hk with h1 | h1 | h1 | ⟨s,hs,h1⟩
  ·exact .inl (Zu.2 (.inl h1))
  ·exact .inl (Zu.2 (.inr (.inl h1)))
  ·rcases wh with e | ⟨k',e,hk'⟩
   ·rw [e] at h1
    exact .inl (Zu.2 (.inr (.inr (.inl h1))))
   ·rw [e] at h1
    injection h1 with h1
    subst h1
    have:=hb.size
    have:=m3.size
    have:=b4.size
    exact .inr (by omega)
  ·rcases Zca hs with rfl | hs
   ·cases h1
   ·exact .inl (Zu.2 (.inr (.inr (.inr ⟨s,hs,h1⟩))))
 ·rcases Zu.1 e with h1 | h1 | h1 | ⟨s,hs,h1⟩
  ·exact hn (Zu.2 (.inl h1))
  ·exact hn (Zu.2 (.inr (.inl h1)))
  ·rcases wh with e | ⟨k',e,hk'⟩
   ·rw [e] at h1
    exact hn (Zu.2 (.inr (.inr (.inl h1))))
   ·rw [e] at h1
    injection h1 with h1
    subst h1
    have:=hX4.lt
    omega
  ·rcases Zca hs with rfl | hs
   ·cases h1
   ·exact hn (Zu.2 (.inr (.inr (.inr ⟨s,hs,h1⟩))))
theorem Rq.setSd {w w6:World} {S:List Nat} {g room b6 n6 c6 b5:Nat} {vf6:Value} {ss:List Sp} {fr:List Nat} {X:Array Value} (q1:Rs w6 g (.slice (some ⟨b6,0,none⟩) n6 c6) vf6 room ss fr) (q2:Mod S w w6) (q3:New S w (rsB g (.slice (some ⟨b6,0,none⟩) n6 c6) vf6 ss)) (q4:Blk w6 b5 154 X) (q5:b5 ∉ rsB g (.slice (some ⟨b6,0,none⟩) n6 c6) vf6 ss) (k:Nat) (hk:(spAt ss k).kind≠0) (m:Nat):Rq w S g room (ss.set k { spAt ss k with sd:=m}) fr b5 X (w6.setCell ⟨b6,k * 39+38,none⟩ (.int .i64 (m:Int))).drew:=by
 have m1:Mod (rsB g (.slice (some ⟨b6,0,none⟩) n6 c6) vf6 ss) w6 (w6.setCell ⟨b6,k * 39+38,none⟩ (.int .i64 (m:Int))).drew:=(Mod.setCell _ _ _ _ (Zu.2 (.inr (.inl rfl)))).trans' (Mod.drew _ _)
 have hs:=Zlr (g:=g) (vp:=.slice (some ⟨b6,0,none⟩) n6 c6) (vf:=vf6) (s':={ spAt ss k with sd:=m}) (Zgp hk) rfl
 refine ⟨_,_,(q1.setSd k hk m).mod (Mod.drew [] _) (fun _ _ h=>by cases h),q2.trans q3 m1,fun x hx=>q3 x (hs x hx),q4.mod m1 q5,fun e=>q5 (hs _ e)⟩
def FreeC (g room n:Nat):Prop:=∀(cs cs':List (Nat×Ce)) (i:Nat) (rest:List Nat) (ss:List Sp) (fr fr':List Nat) (w:World) (vp vf:Value),Wf cs ((i+1)::rest)→(∀j,cc cs j≤1073741824)→fr.length+noc cs≤65536→Rel7 cs ((i+1)::rest) rest ss→Rs w g vp vf room ss fr→Run cs fr [i+1] cs' fr' n→
 Calls Tryz.prog 116 #[.pointer (some ⟨g,0,none⟩),.int .i64 ((i:Int)+1)] w fun e w'=>e=.returned (.int .i64 (n:Int))∧∃ss',Rel7 cs' rest rest ss'∧RT7 w g (rsB g vp vf ss) room ss' fr' w'
theorem Ybu {g room n:Nat} (IH:FreeC g room n) {cs cs':List (Nat×Ce)} {k:Nat} {rest:List Nat} {fr fr':List Nat} (w:Wf cs ((k+1)::rest)) (hM:∀j,cc cs j≤1073741824) (hF:fr.length+noc cs≤65536) (R:Run cs fr [k+1] cs' fr' n) (ss:List Sp) (hr:Rel7 cs ((k+1)::rest) ((k+1)::rest) ss):∃m:Nat,(spAt ss k).sd=m+1∧(spAt ss k).kind≠0∧k<ss.length∧m<1073741824∧∀(wr:World) (vp vf:Value),Rs wr g vp vf room (ss.set k { spAt ss k with sd:=m}) fr→Calls Tryz.prog 116 #[.pointer (some ⟨g,0,none⟩),.int .i64 ((k:Int)+1)] wr fun e w'=>e=.returned (.int .i64 (n:Int))∧∃ss',Rel7 cs' rest rest ss'∧RT7 wr g (rsB g vp vf (ss.set k { spAt ss k with sd:=m})) room ss' fr' w':=by
 have hc:0<cc cs k:=by
  have:=w.le k
  rw [List.count_cons_self] at this
  omega
 have hk:k<ss.length:=by rw [hr.len];exact Zbd hc
 obtain ⟨m,h1,h2⟩:=hr.side hk
 refine ⟨m,h1,(hr.inn w k).2 hc,hk,?_,fun wr vp vf hR=>IH cs cs' k rest _ fr fr' wr vp vf w hM hF h2 hR R⟩
 have h3:=hr.sd k
 have h4:=w.le k
 have h5:=hM k
 omega
set_option maxRecDepth 100000 in
set_option maxHeartbeats 8000000 in
theorem Zpk (g room N:Nat) (IH:∀n,n<N→FreeC g room n):FreeC g room N:=by
 intro cs cs' i rest ss fr fr' w vp vf hW hM hF hrel h R
 have hil:i<ss.length:=by
  rw [hrel.len]
  apply Zbd
  have:=hW.le i
  rw [List.count_cons_self] at this
  omega
 cases R with
 | keep hc R=>
  cases R
  obtain ⟨h1,h2⟩:=hrel.less hW hc
  have hb:(spAt ss i).own+(spAt ss i).sd≤1073741824:=by
   have h3:=hW.own i
   have h4:=hM i
   rw [List.count_cons_self] at h3
   rw [hrel.own,hrel.sd]
   omega
  refine (Zpl h i hil h2 hb).mono ?_
  rintro e w' ⟨rfl,b1⟩
  exact ⟨rfl,ss,h1,vp,vf,h.grow b1,Mod.of_below b1 _,New.refl _ _⟩
 | free hc R=>
  rename_i n0
  obtain ⟨hrel1,hz⟩:=hrel.free hW hc
  have s1:=Zef hW hc
  have hM1:∀j,cc (freeC cs i) j≤1073741824:=fun j=>Nat.le_trans (Zzf cs i j (Zbd (by omega))) (hM j)
  have hF1:(fr++[i+1]).length+noc (freeC cs i)≤65536:=by
   have:=s1.noc
   rw [List.length_append,List.length_singleton]
   omega
  obtain ⟨cs1,fr1,n1,n2,R1,R2,hn⟩:=R.split (ne0 (ce cs i).l) (ne0 (ce cs i).r++[]) rfl
  rw [List.append_nil] at R2
  have s2:=R1.step2 (ne0 (ce cs i).r++rest) s1.wf
  have hM2:∀j,cc cs1 j≤1073741824:=fun j=>Nat.le_trans (R1.cc_le j) (hM1 j)
  have hF2:fr1.length+noc cs1≤65536:=by
   have:=s2.noc
   have:=R1.frlen
   omega
  have ok:=Zco h i
  have hl:=hrel.l i
  have hr:=hrel.r i
  have ho:(spAt ss i).own=0:=by omega
  have hs:(spAt ss i).sd=0:=by omega
  have HAT:=Za (Zbv (spAt ss i) ok.hk.1)
  rw [hl,hr,ho,hs,show ((0:Nat):Int)=0 from rfl] at HAT
  obtain ⟨fa,fc,hvf⟩:=Zi h.frs
  subst hvf
  obtain ⟨b,c,hvp,-,-,-,j0,j1,hw⟩:=h.num i hil
  subst hvp
  have c2:=h.c2
  have HR:=Za h
  have HRG:=Za (h.range i hil)
  have HL:Hid ((Tryz.prog.info? 154).map (·.size)=some (sz7 (spAt ss i)).length):=by
   show _=_
   rw [Zw _ ok.hk.1]
   exact Zbo
  have HL2:Hid ((Tryz.prog.info? 154).map (·.size)=some (sz7 (spAt ss i)).toArray.size):=HL.out
  have HL3:Hid ((sz7 zs7).toArray.size=(sz7 (spAt ss i)).toArray.size):=by
   show (sz7 zs7).length=(sz7 (spAt ss i)).length
   rw [Zw _ ok.hk.1]
   rfl
  have H1:=Za (Zcf ok)
  have HZ0:=Za Zcw
  have HBZ:=Za Zkw
  obtain ⟨Z,hZ⟩:∃Z,Z=sz7 zs7:=⟨_,rfl⟩
  have HZE:Hid (sz7 zs7=Z):=hZ.symm
  have HLZ:Hid ((Tryz.prog.info? 154).map (·.size)=some Z.length):=by rw [hZ];exact Zbo
  have HZL:Hid (Z.length=39):=by rw [hZ];exact Zw zs7 Zdm
  have HZ1:Hid (∀u∈Z,u.oneCell'=true):=by rw [hZ];exact Zcf Zhh
  rw [HZE.out] at HL3 HZ0 HBZ
  generalize sz7 (spAt ss i)=X at HRG HL HL2 HL3 H1 HAT
  obtain ⟨q,hq⟩:∃q:Int,q=(i:Int)+1:=⟨_,rfl⟩
  rw [← hq]
  have HQ:=Za hq
  have h3:q-1=(i:Int):=by rw [hq];exact Int.add_sub_cancel _ _
  have HIL:=Za hil
  obtain ⟨nn,hnn⟩:∃nn,nn=ss.length:=⟨_,rfl⟩
  rw [← hnn] at c2 HR j1
  rw [← hnn]
  have HNN:=Za hnn
  have hin:i<nn:=by rw [hnn];exact hil
  obtain ⟨nf,hnf⟩:∃nf,nf=fr.length:=⟨_,rfl⟩
  rw [← hnf] at HR
  rw [← hnf]
  have HNF:=Za hnf
  have HFL:Hid (nf+1≤65536):=by
   rw [List.length_append,List.length_singleton] at hF1
   show _≤_
   omega
  have HREL:=Za hrel1
  have HF1:=Za hF1
  clear hrel hrel1 hz hW hM hF h ok ho hs hl hr hZ hq hil hnn hnf hF1
  by_cases l0:(ce cs i).l=0
  ·by_cases r0:(ce cs i).r=0
   ·skip
    rw [r0,show ((0:Nat):Int)=0 from rfl] at HAT
    rw [r0] at R2 HREL s1 s2
    rw [l0,show ((0:Nat):Int)=0 from rfl] at HAT
    rw [l0] at R1 HREL s1 s2
    have HWN:Hid (wrap64 (1+(n1:Int))=((n1+1:Nat):Int)):=by
     have h1:=R1.frlen
     have h2:=hF2
     show _=_
     rw [Go.IntWalk.wrap64_in _ (by omega)]
     omega
    go_enter Tryz.func116,Tryz.ntmps116
    go_wp2_with (first
     |((with_reducible refine Zk 14 13 ?_);refine wpList_load_mid rfl _ _ rfl b (i * 39) rfl X _ HRG.out Tryz.underlying154 rfl HL.out ?_)
     |((with_reducible refine Zv 5 ?_);refine Zg _ rfl _ rfl _ HZ0.out ?_;intro w1 b5 hg5 hl5 B5 b1;have HB5:=Za B5;have Hg5:=Za hg5;have HB1:=Za b1;clear B5 hg5 hl5 b1)
     |((with_reducible refine Zah 5 ?_);refine Zf _ rfl _ _ _ rfl b5 _ X.toArray rfl rfl HB5.out HL2.out HL3.out (all_oneCell_toArray H1.out) ?_;intro w2 B6 g6;have e1:=B6.cell 37;have e2:=B6.cell 38;simp only [List.getElem?_toArray] at e1 e2;rw [HAT.out.2.2.2.2.2.1] at e1;rw [HAT.out.2.2.2.2.2.2] at e2;have HB2:=Za (Ze HB1.out g6 Hg5.out);have HR2:=Za (HR.out.grow HB2.out);have c22:=HR2.out.c2;have HX2:=Za B6;have HNB:Hid (b5 ∉ rsB g (.slice (some ⟨b,0,none⟩) nn c) (.slice fa nf fc) ss):=(fun e=>by have:=HR.out.lts _ e;have:=Hg5.out;omega);clear B6 g6 HB5)
     |((with_reducible refine Zfi 27 ?_);refine Zai _ rfl _ _ rfl _ (by rw [List.map_toArray];exact HBZ.out) ?_)
     |((with_reducible refine Zah 28 ?_);refine Zdn _ rfl _ _ _ rfl 154 39 nn c b (i * 39) (ss.flatMap sz7) Z rfl rfl (by have:=HR2.out.sps;rw [← HNN.out] at this;exact this) HLZ.out (by rw [HZL.out];have:=HIL.out;have:=HNN.out;omega) HZ1.out ?_;intro w3 l3 m3 s3;have HR3:=Za (HR2.out.putS i HIL.out zs7 Zhh (fun _=>rfl) ⟨[],Own.nil _ _⟩ (by rw [HZE.out];exact l3) m3);have hne5:b5 ∉ [b]:=(fun e=>HNB.out (Zu.2 (.inr (.inl (by simp at e;rw [e];rfl)))));have HX3:=Za (HX2.out.mod m3 hne5);have HM3:=Za m3;have c33:=HR3.out.c3;clear l3 m3 s3 hne5)
     |(at_builtin;have HR4:=Za (HR3.out.grow (Zd w3 (.cells #[.int .i64 q] 3)));refine Zbp _ rfl _ _ _ rfl 3 1 8 Tryz.underlying30 Zae (by omega) _ nf (nats fr) rfl (by have:=HR4.out.frs;rw [← HNF.out] at this;exact this) w3.heap.size [Value.int .i64 q] rfl (Blk.new _ _ _) rfl (by intro u hu;simp at hu;subst hu;rfl) (by have:=HFL.out;simp only [maxLen];omega) (by have:=HFL.out;omega) ?_;intro vf' w5 l5 g5 wh;obtain ⟨a5,c5,rfl⟩:=Zi l5;have HL5:=Za l5;have HG5:=Za g5;have HWH:=Za wh;have hb5:Blk w5 g 80 #[.bool true,.int .i64 (room:Int),.slice (some ⟨b,0,none⟩) nn c,.slice fa nf fc]:=HR4.out.blk.mod (S:=(Value.slice fa nf fc).ownBlock.toList) (Mod.of_grown g5 (fun k hk=>Option.mem_toList.2 hk)) (fun e=>Zn HR4.out.frs HR4.out.blk Zoz (Option.mem_toList.1 e));have c53:w5.cell? ⟨g,3,none⟩=some (.slice fa nf fc):=hb5.cell 3;have f53:=hb5.frozen 3;have HRQ:Hid (Rq w (rsB g (.slice (some ⟨b,0,none⟩) nn c) (.slice fa nf fc) ss) g room (ss.set i zs7) (fr++[i+1]) b5 X.toArray (w5.setCell ⟨g,3,none⟩ (.slice a5 (nf+1) c5))):=Zsh HR.out HB2.out HNB.out HX3.out HM3.out HR4.out HL5.out HG5.out HWH.out HNF.out HQ.out HFL.out;have e35:=HRQ.out.cell 35;have e36:=HRQ.out.cell 36;simp only [List.getElem?_toArray] at e35 e36;rw [HAT.out.2.2.2.1] at e35;rw [HAT.out.2.2.2.2.1] at e36;clear l5 g5 wh hb5))
    go_ret
    cases R1
    cases R2
    have hn':n0=0:=hn
    subst hn'
    refine ⟨rfl,ss.set i zs7,HREL.out,HRQ.out.out⟩
   ·skip
    obtain ⟨k',hk'⟩:∃k,(ce cs i).r=k+1:=⟨(ce cs i).r-1,by omega⟩
    rw [hk',show ((k'+1:Nat):Int)=(k':Int)+1 from rfl] at HAT
    rw [hk'] at R2 HREL s1 s2
    have HSIDE:Hid (∀ss3,Rel7 cs1 ((k'+1)::rest) ((k'+1)::rest) ss3→∃m:Nat,(spAt ss3 k').sd=m+1∧(spAt ss3 k').kind≠0∧k'<ss3.length∧m<1073741824∧∀(wr:World) (vp vf:Value),Rs wr g vp vf room (ss3.set k' { spAt ss3 k' with sd:=m}) fr1→Calls Tryz.prog 116 #[.pointer (some ⟨g,0,none⟩),.int .i64 ((k':Int)+1)] wr fun e w'=>e=.returned (.int .i64 (n2:Int))∧∃ss',Rel7 cs' rest rest ss'∧RT7 wr g (rsB g vp vf (ss3.set k' { spAt ss3 k' with sd:=m})) room ss' fr' w'):=fun ss3 h=>Ybu (IH n2 (by omega)) s2.wf hM2 hF2 R2 ss3 h
    have hb1:n1+n2≤65536:=by
     have h1:=R1.frlen
     have h2:=R2.frlen
     have h3:=(R2.step2 rest s2.wf).noc
     omega
    obtain ⟨N1,hN1⟩:∃N1,N1=n1+1:=⟨_,rfl⟩
    obtain ⟨N2,hN2⟩:∃N2,N2=N1+n2:=⟨_,rfl⟩
    have hn1:n1=0:=by
     have h1:=R1
     rw [l0] at h1
     cases h1
     rfl
    have hwn2:wrap64 (1+(n2:Int))=(N2:Int):=by
     rw [Go.IntWalk.wrap64_in _ (by omega)]
     omega
    have HN0:Hid (n0+1=N2):=by
     show _=_
     omega
    clear hb1 hN1 hN2
    rw [l0,show ((0:Nat):Int)=0 from rfl] at HAT
    rw [l0] at R1 HREL s1 s2
    cases R1
    obtain ⟨m,sd6,kd6,kl6,mm6,call6⟩:=HSIDE.out _ HREL.out
    have SD6:=Za sd6
    have KD6:=Za kd6
    have KL6:=Za kl6
    have MM6:=Za mm6
    have CALL6:=Za call6
    have LEN6:Hid ((ss.set i zs7).length=ss.length):=List.length_set ..
    clear sd6 kd6 kl6 mm6 call6
    go_enter Tryz.func116,Tryz.ntmps116
    go_wp2_with (first
     |((with_reducible refine Zk 14 13 ?_);refine wpList_load_mid rfl _ _ rfl b (i * 39) rfl X _ HRG.out Tryz.underlying154 rfl HL.out ?_)
     |((with_reducible refine Zv 5 ?_);refine Zg _ rfl _ rfl _ HZ0.out ?_;intro w1 b5 hg5 hl5 B5 b1;have HB5:=Za B5;have Hg5:=Za hg5;have HB1:=Za b1;clear B5 hg5 hl5 b1)
     |((with_reducible refine Zah 5 ?_);refine Zf _ rfl _ _ _ rfl b5 _ X.toArray rfl rfl HB5.out HL2.out HL3.out (all_oneCell_toArray H1.out) ?_;intro w2 B6 g6;have e1:=B6.cell 37;have e2:=B6.cell 38;simp only [List.getElem?_toArray] at e1 e2;rw [HAT.out.2.2.2.2.2.1] at e1;rw [HAT.out.2.2.2.2.2.2] at e2;have HB2:=Za (Ze HB1.out g6 Hg5.out);have HR2:=Za (HR.out.grow HB2.out);have c22:=HR2.out.c2;have HX2:=Za B6;have HNB:Hid (b5 ∉ rsB g (.slice (some ⟨b,0,none⟩) nn c) (.slice fa nf fc) ss):=(fun e=>by have:=HR.out.lts _ e;have:=Hg5.out;omega);clear B6 g6 HB5)
     |((with_reducible refine Zfi 27 ?_);refine Zai _ rfl _ _ rfl _ (by rw [List.map_toArray];exact HBZ.out) ?_)
     |((with_reducible refine Zah 28 ?_);refine Zdn _ rfl _ _ _ rfl 154 39 nn c b (i * 39) (ss.flatMap sz7) Z rfl rfl (by have:=HR2.out.sps;rw [← HNN.out] at this;exact this) HLZ.out (by rw [HZL.out];have:=HIL.out;have:=HNN.out;omega) HZ1.out ?_;intro w3 l3 m3 s3;have HR3:=Za (HR2.out.putS i HIL.out zs7 Zhh (fun _=>rfl) ⟨[],Own.nil _ _⟩ (by rw [HZE.out];exact l3) m3);have hne5:b5 ∉ [b]:=(fun e=>HNB.out (Zu.2 (.inr (.inl (by simp at e;rw [e];rfl)))));have HX3:=Za (HX2.out.mod m3 hne5);have HM3:=Za m3;have c33:=HR3.out.c3;clear l3 m3 s3 hne5)
     |(at_builtin;have HR4:=Za (HR3.out.grow (Zd w3 (.cells #[.int .i64 q] 3)));refine Zbp _ rfl _ _ _ rfl 3 1 8 Tryz.underlying30 Zae (by omega) _ nf (nats fr) rfl (by have:=HR4.out.frs;rw [← HNF.out] at this;exact this) w3.heap.size [Value.int .i64 q] rfl (Blk.new _ _ _) rfl (by intro u hu;simp at hu;subst hu;rfl) (by have:=HFL.out;simp only [maxLen];omega) (by have:=HFL.out;omega) ?_;intro vf' w5 l5 g5 wh;obtain ⟨a5,c5,rfl⟩:=Zi l5;have HL5:=Za l5;have HG5:=Za g5;have HWH:=Za wh;have hb5:Blk w5 g 80 #[.bool true,.int .i64 (room:Int),.slice (some ⟨b,0,none⟩) nn c,.slice fa nf fc]:=HR4.out.blk.mod (S:=(Value.slice fa nf fc).ownBlock.toList) (Mod.of_grown g5 (fun k hk=>Option.mem_toList.2 hk)) (fun e=>Zn HR4.out.frs HR4.out.blk Zoz (Option.mem_toList.1 e));have c53:w5.cell? ⟨g,3,none⟩=some (.slice fa nf fc):=hb5.cell 3;have f53:=hb5.frozen 3;have HRQ:Hid (Rq w (rsB g (.slice (some ⟨b,0,none⟩) nn c) (.slice fa nf fc) ss) g room (ss.set i zs7) (fr++[i+1]) b5 X.toArray (w5.setCell ⟨g,3,none⟩ (.slice a5 (nf+1) c5))):=Zsh HR.out HB2.out HNB.out HX3.out HM3.out HR4.out HL5.out HG5.out HWH.out HNF.out HQ.out HFL.out;have e35:=HRQ.out.cell 35;have e36:=HRQ.out.cell 36;simp only [List.getElem?_toArray] at e35 e36;rw [HAT.out.2.2.2.1] at e35;rw [HAT.out.2.2.2.2.1] at e36;clear l5 g5 wh hb5))
    generalize w5.setCell ⟨g,3,none⟩ (.slice a5 (nf+1) c5)=w6 at *
    clear e35 e36 e1 e2 c22 c33 c53 f53
    obtain ⟨vp6,vf6,q16,q26,q36,q46,q56⟩:=HRQ.out
    obtain ⟨b6,c6,hv6,-,k26,k36,j06,j16,hw6⟩:=q16.num k' KL6.out
    subst hv6
    rw [SD6.out] at k26
    have HQQ6:=Za (Rq.setSd q16 q26 q36 q46 q56 k' KD6.out m)
    have c26:=q16.c2
    have f36:=k36 (k' * 39+38)
    have e56:=HRQ.out.cell 36
    simp only [List.getElem?_toArray] at e56
    rw [HAT.out.2.2.2.2.1] at e56
    have hm6:wrap64 (m:Int)=(m:Int):=Go.IntWalk.wrap64_in _ (by have:=MM6.out;omega)
    have hv6:IntKind.i64.wrap (k':Int)=(k':Int):=(Go.IntWalk.i64_left _).trans hw6
    have hu6:IntKind.i64.wrap (m:Int)=(m:Int):=(Go.IntWalk.i64_left _).trans hm6
    have hkl6:k'<ss.length:=by have:=KL6.out;rwa [LEN6.out] at this
    have hkm6: ¬ss.length≤k':=Nat.not_le.2 hkl6
    clear q16 q26 q36 q46 q56 k36
    refine Zad (S:=fun w'=>w'.cell? ⟨g,2,none⟩=some (.slice (some ⟨b6,0,none⟩) (ss.set i zs7).length c6)∧w'.cell? ⟨b5,36,none⟩=some (.int .i64 ((k':Int)+1))∧w'.cell? ⟨b6,k' * 39+38,none⟩=some (.int .i64 ((m+1:Nat):Int))) 13 (by kernel_rfl) (⟨c26,e56,k26⟩) (fun hHeld=>?_)
    refine tlp 0 (.pointer (some ⟨g,0,none⟩)) hHeld ?_
    simp only [zq]
    refine tlp 1 (.pointer (some ⟨g,0,none⟩)) hHeld ?_
    simp only [zq]
    refine tlp 2 (.pointer (some ⟨g,2,none⟩)) hHeld ?_
    simp only [zq]
    refine tlg 3 (.slice (some ⟨b6,0,none⟩) (ss.set i zs7).length c6) rfl (Or.inl ⟨by rfl,fun w hS=>by (have z1:=hS.1;go_simp)⟩) hHeld ?_
    simp only [zq]
    refine tlp 4 (.pointer (some ⟨b5,36,none⟩)) hHeld ?_
    simp only [zq]
    refine tlg 5 (.int .i64 ((k':Int)+1)) rfl (Or.inl ⟨by rfl,fun w hS=>by (have z1:=hS.2.1;go_simp)⟩) hHeld ?_
    simp only [zq]
    refine tlg 6 (.int .i64 (k':Int)) rfl (Or.inl ⟨by rfl,fun w hS=>by (go_simp;skip)⟩) hHeld ?_
    simp only [zq]
    refine tlp 7 (.pointer (some ⟨b6,k' * 39,none⟩)) hHeld ?_
    simp only [zq]
    refine tlp 8 (.pointer (some ⟨b6,k' * 39+38,none⟩)) hHeld ?_
    simp only [zq]
    refine tlg 9 (.int .i64 ((m+1:Nat):Int)) rfl (Or.inl ⟨by rfl,fun w hS=>by (have z1:=hS.2.2;go_simp)⟩) hHeld ?_
    simp only [zq]
    refine tlp 10 (.int .i64 (m:Int)) hHeld ?_
    simp only [zq]
    refine tlp 11 (.pointer (some ⟨b6,k' * 39,none⟩)) hHeld ?_
    simp only [zq]
    refine tlp 12 (.pointer (some ⟨b6,k' * 39+38,none⟩)) hHeld ?_
    simp only [zq]
    refine Zar rfl (by kernel_rfl) (by kernel_rfl) (fun KQ hK=>?_)
    go_simp
    skip
    refine hK.out _ _ ?_
    clear hK KQ
    clear hHeld
    generalize (w6.setCell ⟨b6,k' * 39+38,none⟩ (.int .i64 (m:Int))).drew=w7 at *
    have e57:=HQQ6.out.cell 36
    simp only [List.getElem?_toArray] at e57
    rw [HAT.out.2.2.2.2.1] at e57
    clear c26 e56 k26 f36
    go_wp2_with (go_at_call 116;refine (HQQ6.out.use (fun vp vf h=>CALL6.out _ vp vf h)).mono ?_;rintro e w8 ⟨rfl,ss3,rel3,rq3⟩;have REL3:=Za rel3;have RQ3:=Za rq3;clear rel3 rq3)
    go_ret
    refine ⟨by rw [HN0.out,← hwn2];rfl,ss3,REL3.out,RQ3.out.out⟩
  ·by_cases r0:(ce cs i).r=0
   ·skip
    rw [r0,show ((0:Nat):Int)=0 from rfl] at HAT
    rw [r0] at R2 HREL s1 s2
    obtain ⟨k,hk⟩:∃k,(ce cs i).l=k+1:=⟨(ce cs i).l-1,by omega⟩
    rw [hk,show ((k+1:Nat):Int)=(k:Int)+1 from rfl] at HAT
    rw [hk] at R1 HREL s1 s2
    obtain ⟨m,sd6,kd6,kl6,mm6,call6⟩:=Ybu (IH n1 (by omega)) s1.wf hM1 HF1.out R1 _ HREL.out
    have SD6:=Za sd6
    have KD6:=Za kd6
    have KL6:=Za kl6
    have MM6:=Za mm6
    have CALL6:=Za call6
    have LEN6:Hid ((ss.set i zs7).length=ss.length):=List.length_set ..
    clear sd6 kd6 kl6 mm6 call6
    have HWN:Hid (wrap64 (1+(n1:Int))=((n1+1:Nat):Int)):=by
     have h1:=R1.frlen
     have h2:=hF2
     show _=_
     rw [Go.IntWalk.wrap64_in _ (by omega)]
     omega
    go_enter Tryz.func116,Tryz.ntmps116
    go_wp2_with (first
     |((with_reducible refine Zk 14 13 ?_);refine wpList_load_mid rfl _ _ rfl b (i * 39) rfl X _ HRG.out Tryz.underlying154 rfl HL.out ?_)
     |((with_reducible refine Zv 5 ?_);refine Zg _ rfl _ rfl _ HZ0.out ?_;intro w1 b5 hg5 hl5 B5 b1;have HB5:=Za B5;have Hg5:=Za hg5;have HB1:=Za b1;clear B5 hg5 hl5 b1)
     |((with_reducible refine Zah 5 ?_);refine Zf _ rfl _ _ _ rfl b5 _ X.toArray rfl rfl HB5.out HL2.out HL3.out (all_oneCell_toArray H1.out) ?_;intro w2 B6 g6;have e1:=B6.cell 37;have e2:=B6.cell 38;simp only [List.getElem?_toArray] at e1 e2;rw [HAT.out.2.2.2.2.2.1] at e1;rw [HAT.out.2.2.2.2.2.2] at e2;have HB2:=Za (Ze HB1.out g6 Hg5.out);have HR2:=Za (HR.out.grow HB2.out);have c22:=HR2.out.c2;have HX2:=Za B6;have HNB:Hid (b5 ∉ rsB g (.slice (some ⟨b,0,none⟩) nn c) (.slice fa nf fc) ss):=(fun e=>by have:=HR.out.lts _ e;have:=Hg5.out;omega);clear B6 g6 HB5)
     |((with_reducible refine Zfi 27 ?_);refine Zai _ rfl _ _ rfl _ (by rw [List.map_toArray];exact HBZ.out) ?_)
     |((with_reducible refine Zah 28 ?_);refine Zdn _ rfl _ _ _ rfl 154 39 nn c b (i * 39) (ss.flatMap sz7) Z rfl rfl (by have:=HR2.out.sps;rw [← HNN.out] at this;exact this) HLZ.out (by rw [HZL.out];have:=HIL.out;have:=HNN.out;omega) HZ1.out ?_;intro w3 l3 m3 s3;have HR3:=Za (HR2.out.putS i HIL.out zs7 Zhh (fun _=>rfl) ⟨[],Own.nil _ _⟩ (by rw [HZE.out];exact l3) m3);have hne5:b5 ∉ [b]:=(fun e=>HNB.out (Zu.2 (.inr (.inl (by simp at e;rw [e];rfl)))));have HX3:=Za (HX2.out.mod m3 hne5);have HM3:=Za m3;have c33:=HR3.out.c3;clear l3 m3 s3 hne5)
     |(at_builtin;have HR4:=Za (HR3.out.grow (Zd w3 (.cells #[.int .i64 q] 3)));refine Zbp _ rfl _ _ _ rfl 3 1 8 Tryz.underlying30 Zae (by omega) _ nf (nats fr) rfl (by have:=HR4.out.frs;rw [← HNF.out] at this;exact this) w3.heap.size [Value.int .i64 q] rfl (Blk.new _ _ _) rfl (by intro u hu;simp at hu;subst hu;rfl) (by have:=HFL.out;simp only [maxLen];omega) (by have:=HFL.out;omega) ?_;intro vf' w5 l5 g5 wh;obtain ⟨a5,c5,rfl⟩:=Zi l5;have HL5:=Za l5;have HG5:=Za g5;have HWH:=Za wh;have hb5:Blk w5 g 80 #[.bool true,.int .i64 (room:Int),.slice (some ⟨b,0,none⟩) nn c,.slice fa nf fc]:=HR4.out.blk.mod (S:=(Value.slice fa nf fc).ownBlock.toList) (Mod.of_grown g5 (fun k hk=>Option.mem_toList.2 hk)) (fun e=>Zn HR4.out.frs HR4.out.blk Zoz (Option.mem_toList.1 e));have c53:w5.cell? ⟨g,3,none⟩=some (.slice fa nf fc):=hb5.cell 3;have f53:=hb5.frozen 3;have HRQ:Hid (Rq w (rsB g (.slice (some ⟨b,0,none⟩) nn c) (.slice fa nf fc) ss) g room (ss.set i zs7) (fr++[i+1]) b5 X.toArray (w5.setCell ⟨g,3,none⟩ (.slice a5 (nf+1) c5))):=Zsh HR.out HB2.out HNB.out HX3.out HM3.out HR4.out HL5.out HG5.out HWH.out HNF.out HQ.out HFL.out;have e35:=HRQ.out.cell 35;have e36:=HRQ.out.cell 36;simp only [List.getElem?_toArray] at e35 e36;rw [HAT.out.2.2.2.1] at e35;rw [HAT.out.2.2.2.2.1] at e36;clear l5 g5 wh hb5))
    generalize w5.setCell ⟨g,3,none⟩ (.slice a5 (nf+1) c5)=w6 at *
    clear e35 e36 e1 e2 c22 c33 c53 f53
    obtain ⟨vp6,vf6,q16,q26,q36,q46,q56⟩:=HRQ.out
    obtain ⟨b6,c6,hv6,-,k26,k36,j06,j16,hw6⟩:=q16.num k KL6.out
    subst hv6
    rw [SD6.out] at k26
    have HQQ6:=Za (Rq.setSd q16 q26 q36 q46 q56 k KD6.out m)
    have c26:=q16.c2
    have f36:=k36 (k * 39+38)
    have e56:=HRQ.out.cell 35
    simp only [List.getElem?_toArray] at e56
    rw [HAT.out.2.2.2.1] at e56
    have hm6:wrap64 (m:Int)=(m:Int):=Go.IntWalk.wrap64_in _ (by have:=MM6.out;omega)
    have hv6:IntKind.i64.wrap (k:Int)=(k:Int):=(Go.IntWalk.i64_left _).trans hw6
    have hu6:IntKind.i64.wrap (m:Int)=(m:Int):=(Go.IntWalk.i64_left _).trans hm6
    have hkl6:k<ss.length:=by have:=KL6.out;rwa [LEN6.out] at this
    have hkm6: ¬ss.length≤k:=Nat.not_le.2 hkl6
    clear q16 q26 q36 q46 q56 k36
    refine Zad (S:=fun w'=>w'.cell? ⟨g,2,none⟩=some (.slice (some ⟨b6,0,none⟩) (ss.set i zs7).length c6)∧w'.cell? ⟨b5,35,none⟩=some (.int .i64 ((k:Int)+1))∧w'.cell? ⟨b6,k * 39+38,none⟩=some (.int .i64 ((m+1:Nat):Int))) 13 (by kernel_rfl) (⟨c26,e56,k26⟩) (fun hHeld=>?_)
    refine tlp 0 (.pointer (some ⟨g,0,none⟩)) hHeld ?_
    simp only [zq]
    refine tlp 1 (.pointer (some ⟨g,0,none⟩)) hHeld ?_
    simp only [zq]
    refine tlp 2 (.pointer (some ⟨g,2,none⟩)) hHeld ?_
    simp only [zq]
    refine tlg 3 (.slice (some ⟨b6,0,none⟩) (ss.set i zs7).length c6) rfl (Or.inl ⟨by rfl,fun w hS=>by (have z1:=hS.1;go_simp)⟩) hHeld ?_
    simp only [zq]
    refine tlp 4 (.pointer (some ⟨b5,35,none⟩)) hHeld ?_
    simp only [zq]
    refine tlg 5 (.int .i64 ((k:Int)+1)) rfl (Or.inl ⟨by rfl,fun w hS=>by (have z1:=hS.2.1;go_simp)⟩) hHeld ?_
    simp only [zq]
    refine tlg 6 (.int .i64 (k:Int)) rfl (Or.inl ⟨by rfl,fun w hS=>by (go_simp;skip)⟩) hHeld ?_
    simp only [zq]
    refine tlp 7 (.pointer (some ⟨b6,k * 39,none⟩)) hHeld ?_
    simp only [zq]
    refine tlp 8 (.pointer (some ⟨b6,k * 39+38,none⟩)) hHeld ?_
    simp only [zq]
    refine tlg 9 (.int .i64 ((m+1:Nat):Int)) rfl (Or.inl ⟨by rfl,fun w hS=>by (have z1:=hS.2.2;go_simp)⟩) hHeld ?_
    simp only [zq]
    refine tlp 10 (.int .i64 (m:Int)) hHeld ?_
    simp only [zq]
    refine tlp 11 (.pointer (some ⟨b6,k * 39,none⟩)) hHeld ?_
    simp only [zq]
    refine tlp 12 (.pointer (some ⟨b6,k * 39+38,none⟩)) hHeld ?_
    simp only [zq]
    refine Zar rfl (by kernel_rfl) (by kernel_rfl) (fun KQ hK=>?_)
    go_simp
    skip
    refine hK.out _ _ ?_
    clear hK KQ
    clear hHeld
    generalize (w6.setCell ⟨b6,k * 39+38,none⟩ (.int .i64 (m:Int))).drew=w7 at *
    have e57:=HQQ6.out.cell 35
    simp only [List.getElem?_toArray] at e57
    rw [HAT.out.2.2.2.1] at e57
    clear c26 e56 k26 f36
    go_wp2_with (go_at_call 116;refine (HQQ6.out.use (fun vp vf h=>CALL6.out _ vp vf h)).mono ?_;rintro e w8 ⟨rfl,ss3,rel3,rq3⟩;have REL3:=Za rel3;have e58:=rq3.cell 36;simp only [List.getElem?_toArray] at e58;rw [HAT.out.2.2.2.2.1] at e58;have RQ3:=Za rq3;clear rel3 rq3)
    go_ret
    cases R2
    have hn':n0=n1:=hn
    subst hn'
    refine ⟨by rw [HWN.out];rfl,ss3,REL3.out,RQ3.out.out⟩
   ·skip
    obtain ⟨k',hk'⟩:∃k,(ce cs i).r=k+1:=⟨(ce cs i).r-1,by omega⟩
    rw [hk',show ((k'+1:Nat):Int)=(k':Int)+1 from rfl] at HAT
    rw [hk'] at R2 HREL s1 s2
    have HSIDE:Hid (∀ss3,Rel7 cs1 ((k'+1)::rest) ((k'+1)::rest) ss3→∃m:Nat,(spAt ss3 k').sd=m+1∧(spAt ss3 k').kind≠0∧k'<ss3.length∧m<1073741824∧∀(wr:World) (vp vf:Value),Rs wr g vp vf room (ss3.set k' { spAt ss3 k' with sd:=m}) fr1→Calls Tryz.prog 116 #[.pointer (some ⟨g,0,none⟩),.int .i64 ((k':Int)+1)] wr fun e w'=>e=.returned (.int .i64 (n2:Int))∧∃ss',Rel7 cs' rest rest ss'∧RT7 wr g (rsB g vp vf (ss3.set k' { spAt ss3 k' with sd:=m})) room ss' fr' w'):=fun ss3 h=>Ybu (IH n2 (by omega)) s2.wf hM2 hF2 R2 ss3 h
    have hb1:n1+n2≤65536:=by
     have h1:=R1.frlen
     have h2:=R2.frlen
     have h3:=(R2.step2 rest s2.wf).noc
     omega
    obtain ⟨N1,hN1⟩:∃N1,N1=n1+1:=⟨_,rfl⟩
    obtain ⟨N2,hN2⟩:∃N2,N2=N1+n2:=⟨_,rfl⟩
    have hwn1:wrap64 (1+(n1:Int))=(N1:Int):=by
     rw [Go.IntWalk.wrap64_in _ (by omega)]
     omega
    have hwn2:wrap64 ((N1:Int)+(n2:Int))=(N2:Int):=by
     rw [Go.IntWalk.wrap64_in _ (by omega)]
     omega
    have HN0:Hid (n0+1=N2):=by
     show _=_
     omega
    clear hb1 hN1 hN2
    obtain ⟨k,hk⟩:∃k,(ce cs i).l=k+1:=⟨(ce cs i).l-1,by omega⟩
    rw [hk,show ((k+1:Nat):Int)=(k:Int)+1 from rfl] at HAT
    rw [hk] at R1 HREL s1 s2
    obtain ⟨m,sd6,kd6,kl6,mm6,call6⟩:=Ybu (IH n1 (by omega)) s1.wf hM1 HF1.out R1 _ HREL.out
    have SD6:=Za sd6
    have KD6:=Za kd6
    have KL6:=Za kl6
    have MM6:=Za mm6
    have CALL6:=Za call6
    have LEN6:Hid ((ss.set i zs7).length=ss.length):=List.length_set ..
    clear sd6 kd6 kl6 mm6 call6
    go_enter Tryz.func116,Tryz.ntmps116
    go_wp2_with (first
     |((with_reducible refine Zk 14 13 ?_);refine wpList_load_mid rfl _ _ rfl b (i * 39) rfl X _ HRG.out Tryz.underlying154 rfl HL.out ?_)
     |((with_reducible refine Zv 5 ?_);refine Zg _ rfl _ rfl _ HZ0.out ?_;intro w1 b5 hg5 hl5 B5 b1;have HB5:=Za B5;have Hg5:=Za hg5;have HB1:=Za b1;clear B5 hg5 hl5 b1)
     |((with_reducible refine Zah 5 ?_);refine Zf _ rfl _ _ _ rfl b5 _ X.toArray rfl rfl HB5.out HL2.out HL3.out (all_oneCell_toArray H1.out) ?_;intro w2 B6 g6;have e1:=B6.cell 37;have e2:=B6.cell 38;simp only [List.getElem?_toArray] at e1 e2;rw [HAT.out.2.2.2.2.2.1] at e1;rw [HAT.out.2.2.2.2.2.2] at e2;have HB2:=Za (Ze HB1.out g6 Hg5.out);have HR2:=Za (HR.out.grow HB2.out);have c22:=HR2.out.c2;have HX2:=Za B6;have HNB:Hid (b5 ∉ rsB g (.slice (some ⟨b,0,none⟩) nn c) (.slice fa nf fc) ss):=(fun e=>by have:=HR.out.lts _ e;have:=Hg5.out;omega);clear B6 g6 HB5)
     |((with_reducible refine Zfi 27 ?_);refine Zai _ rfl _ _ rfl _ (by rw [List.map_toArray];exact HBZ.out) ?_)
     |((with_reducible refine Zah 28 ?_);refine Zdn _ rfl _ _ _ rfl 154 39 nn c b (i * 39) (ss.flatMap sz7) Z rfl rfl (by have:=HR2.out.sps;rw [← HNN.out] at this;exact this) HLZ.out (by rw [HZL.out];have:=HIL.out;have:=HNN.out;omega) HZ1.out ?_;intro w3 l3 m3 s3;have HR3:=Za (HR2.out.putS i HIL.out zs7 Zhh (fun _=>rfl) ⟨[],Own.nil _ _⟩ (by rw [HZE.out];exact l3) m3);have hne5:b5 ∉ [b]:=(fun e=>HNB.out (Zu.2 (.inr (.inl (by simp at e;rw [e];rfl)))));have HX3:=Za (HX2.out.mod m3 hne5);have HM3:=Za m3;have c33:=HR3.out.c3;clear l3 m3 s3 hne5)
     |(at_builtin;have HR4:=Za (HR3.out.grow (Zd w3 (.cells #[.int .i64 q] 3)));refine Zbp _ rfl _ _ _ rfl 3 1 8 Tryz.underlying30 Zae (by omega) _ nf (nats fr) rfl (by have:=HR4.out.frs;rw [← HNF.out] at this;exact this) w3.heap.size [Value.int .i64 q] rfl (Blk.new _ _ _) rfl (by intro u hu;simp at hu;subst hu;rfl) (by have:=HFL.out;simp only [maxLen];omega) (by have:=HFL.out;omega) ?_;intro vf' w5 l5 g5 wh;obtain ⟨a5,c5,rfl⟩:=Zi l5;have HL5:=Za l5;have HG5:=Za g5;have HWH:=Za wh;have hb5:Blk w5 g 80 #[.bool true,.int .i64 (room:Int),.slice (some ⟨b,0,none⟩) nn c,.slice fa nf fc]:=HR4.out.blk.mod (S:=(Value.slice fa nf fc).ownBlock.toList) (Mod.of_grown g5 (fun k hk=>Option.mem_toList.2 hk)) (fun e=>Zn HR4.out.frs HR4.out.blk Zoz (Option.mem_toList.1 e));have c53:w5.cell? ⟨g,3,none⟩=some (.slice fa nf fc):=hb5.cell 3;have f53:=hb5.frozen 3;have HRQ:Hid (Rq w (rsB g (.slice (some ⟨b,0,none⟩) nn c) (.slice fa nf fc) ss) g room (ss.set i zs7) (fr++[i+1]) b5 X.toArray (w5.setCell ⟨g,3,none⟩ (.slice a5 (nf+1) c5))):=Zsh HR.out HB2.out HNB.out HX3.out HM3.out HR4.out HL5.out HG5.out HWH.out HNF.out HQ.out HFL.out;have e35:=HRQ.out.cell 35;have e36:=HRQ.out.cell 36;simp only [List.getElem?_toArray] at e35 e36;rw [HAT.out.2.2.2.1] at e35;rw [HAT.out.2.2.2.2.1] at e36;clear l5 g5 wh hb5))
    generalize w5.setCell ⟨g,3,none⟩ (.slice a5 (nf+1) c5)=w6 at *
    clear e35 e36 e1 e2 c22 c33 c53 f53
    obtain ⟨vp6,vf6,q16,q26,q36,q46,q56⟩:=HRQ.out
    obtain ⟨b6,c6,hv6,-,k26,k36,j06,j16,hw6⟩:=q16.num k KL6.out
    subst hv6
    rw [SD6.out] at k26
    have HQQ6:=Za (Rq.setSd q16 q26 q36 q46 q56 k KD6.out m)
    have c26:=q16.c2
    have f36:=k36 (k * 39+38)
    have e56:=HRQ.out.cell 35
    simp only [List.getElem?_toArray] at e56
    rw [HAT.out.2.2.2.1] at e56
    have hm6:wrap64 (m:Int)=(m:Int):=Go.IntWalk.wrap64_in _ (by have:=MM6.out;omega)
    have hv6:IntKind.i64.wrap (k:Int)=(k:Int):=(Go.IntWalk.i64_left _).trans hw6
    have hu6:IntKind.i64.wrap (m:Int)=(m:Int):=(Go.IntWalk.i64_left _).trans hm6
    have hkl6:k<ss.length:=by have:=KL6.out;rwa [LEN6.out] at this
    have hkm6: ¬ss.length≤k:=Nat.not_le.2 hkl6
    clear q16 q26 q36 q46 q56 k36
    refine Zad (S:=fun w'=>w'.cell? ⟨g,2,none⟩=some (.slice (some ⟨b6,0,none⟩) (ss.set i zs7).length c6)∧w'.cell? ⟨b5,35,none⟩=some (.int .i64 ((k:Int)+1))∧w'.cell? ⟨b6,k * 39+38,none⟩=some (.int .i64 ((m+1:Nat):Int))) 13 (by kernel_rfl) (⟨c26,e56,k26⟩) (fun hHeld=>?_)
    refine tlp 0 (.pointer (some ⟨g,0,none⟩)) hHeld ?_
    simp only [zq]
    refine tlp 1 (.pointer (some ⟨g,0,none⟩)) hHeld ?_
    simp only [zq]
    refine tlp 2 (.pointer (some ⟨g,2,none⟩)) hHeld ?_
    simp only [zq]
    refine tlg 3 (.slice (some ⟨b6,0,none⟩) (ss.set i zs7).length c6) rfl (Or.inl ⟨by rfl,fun w hS=>by (have z1:=hS.1;go_simp)⟩) hHeld ?_
    simp only [zq]
    refine tlp 4 (.pointer (some ⟨b5,35,none⟩)) hHeld ?_
    simp only [zq]
    refine tlg 5 (.int .i64 ((k:Int)+1)) rfl (Or.inl ⟨by rfl,fun w hS=>by (have z1:=hS.2.1;go_simp)⟩) hHeld ?_
    simp only [zq]
    refine tlg 6 (.int .i64 (k:Int)) rfl (Or.inl ⟨by rfl,fun w hS=>by (go_simp;skip)⟩) hHeld ?_
    simp only [zq]
    refine tlp 7 (.pointer (some ⟨b6,k * 39,none⟩)) hHeld ?_
    simp only [zq]
    refine tlp 8 (.pointer (some ⟨b6,k * 39+38,none⟩)) hHeld ?_
    simp only [zq]
    refine tlg 9 (.int .i64 ((m+1:Nat):Int)) rfl (Or.inl ⟨by rfl,fun w hS=>by (have z1:=hS.2.2;go_simp)⟩) hHeld ?_
    simp only [zq]
    refine tlp 10 (.int .i64 (m:Int)) hHeld ?_
    simp only [zq]
    refine tlp 11 (.pointer (some ⟨b6,k * 39,none⟩)) hHeld ?_
    simp only [zq]
    refine tlp 12 (.pointer (some ⟨b6,k * 39+38,none⟩)) hHeld ?_
    simp only [zq]
    refine Zar rfl (by kernel_rfl) (by kernel_rfl) (fun KQ hK=>?_)
    go_simp
    skip
    refine hK.out _ _ ?_
    clear hK KQ
    clear hHeld
    generalize (w6.setCell ⟨b6,k * 39+38,none⟩ (.int .i64 (m:Int))).drew=w7 at *
    have e57:=HQQ6.out.cell 35
    simp only [List.getElem?_toArray] at e57
    rw [HAT.out.2.2.2.1] at e57
    clear c26 e56 k26 f36
    go_wp2_with (go_at_call 116;refine (HQQ6.out.use (fun vp vf h=>CALL6.out _ vp vf h)).mono ?_;rintro e w8 ⟨rfl,ss3,rel3,rq3⟩;have REL3:=Za rel3;have e58:=rq3.cell 36;simp only [List.getElem?_toArray] at e58;rw [HAT.out.2.2.2.2.1] at e58;have RQ3:=Za rq3;clear rel3 rq3)
    obtain ⟨m',sd9,kd9,kl9,mm9,call9⟩:=HSIDE.out ss3 REL3.out
    have SD9:=Za sd9
    have KD9:=Za kd9
    have KL9:=Za kl9
    have MM9:=Za mm9
    have CALL9:=Za call9
    have LEN9:Hid (ss3.length=ss3.length):=rfl
    clear sd9 kd9 kl9 mm9 call9 e58
    obtain ⟨vp9,vf9,q19,q29,q39,q49,q59⟩:=RQ3.out
    obtain ⟨b9,c9,hv9,-,k29,k39,j09,j19,hw9⟩:=q19.num k' KL9.out
    subst hv9
    rw [SD9.out] at k29
    have HQQ9:=Za (Rq.setSd q19 q29 q39 q49 q59 k' KD9.out m')
    have c29:=q19.c2
    have f39:=k39 (k' * 39+38)
    have e59:=RQ3.out.cell 36
    simp only [List.getElem?_toArray] at e59
    rw [HAT.out.2.2.2.2.1] at e59
    have hm9:wrap64 (m':Int)=(m':Int):=Go.IntWalk.wrap64_in _ (by have:=MM9.out;omega)
    have hv9:IntKind.i64.wrap (k':Int)=(k':Int):=(Go.IntWalk.i64_left _).trans hw9
    have hu9:IntKind.i64.wrap (m':Int)=(m':Int):=(Go.IntWalk.i64_left _).trans hm9
    have hkl9:k'<ss3.length:=by have:=KL9.out;rwa [LEN9.out] at this
    have hkm9: ¬ss3.length≤k':=Nat.not_le.2 hkl9
    clear q19 q29 q39 q49 q59 k39
    refine Zad (S:=fun w'=>w'.cell? ⟨g,2,none⟩=some (.slice (some ⟨b9,0,none⟩) ss3.length c9)∧w'.cell? ⟨b5,36,none⟩=some (.int .i64 ((k':Int)+1))∧w'.cell? ⟨b9,k' * 39+38,none⟩=some (.int .i64 ((m'+1:Nat):Int))) 13 (by kernel_rfl) (⟨c29,e59,k29⟩) (fun hHeld=>?_)
    refine tlp 0 (.pointer (some ⟨g,0,none⟩)) hHeld ?_
    simp only [zq]
    refine tlp 1 (.pointer (some ⟨g,0,none⟩)) hHeld ?_
    simp only [zq]
    refine tlp 2 (.pointer (some ⟨g,2,none⟩)) hHeld ?_
    simp only [zq]
    refine tlg 3 (.slice (some ⟨b9,0,none⟩) ss3.length c9) rfl (Or.inl ⟨by rfl,fun w hS=>by (have z1:=hS.1;go_simp)⟩) hHeld ?_
    simp only [zq]
    refine tlp 4 (.pointer (some ⟨b5,36,none⟩)) hHeld ?_
    simp only [zq]
    refine tlg 5 (.int .i64 ((k':Int)+1)) rfl (Or.inl ⟨by rfl,fun w hS=>by (have z1:=hS.2.1;go_simp)⟩) hHeld ?_
    simp only [zq]
    refine tlg 6 (.int .i64 (k':Int)) rfl (Or.inl ⟨by rfl,fun w hS=>by (go_simp;skip)⟩) hHeld ?_
    simp only [zq]
    refine tlp 7 (.pointer (some ⟨b9,k' * 39,none⟩)) hHeld ?_
    simp only [zq]
    refine tlp 8 (.pointer (some ⟨b9,k' * 39+38,none⟩)) hHeld ?_
    simp only [zq]
    refine tlg 9 (.int .i64 ((m'+1:Nat):Int)) rfl (Or.inl ⟨by rfl,fun w hS=>by (have z1:=hS.2.2;go_simp)⟩) hHeld ?_
    simp only [zq]
    refine tlp 10 (.int .i64 (m':Int)) hHeld ?_
    simp only [zq]
    refine tlp 11 (.pointer (some ⟨b9,k' * 39,none⟩)) hHeld ?_
    simp only [zq]
    refine tlp 12 (.pointer (some ⟨b9,k' * 39+38,none⟩)) hHeld ?_
    simp only [zq]
    refine Zar rfl (by kernel_rfl) (by kernel_rfl) (fun KQ hK=>?_)
    go_simp
    skip
    refine hK.out _ _ ?_
    clear hK KQ
    clear hHeld
    generalize (w8.setCell ⟨b9,k' * 39+38,none⟩ (.int .i64 (m':Int))).drew=w9 at *
    have e60:=HQQ9.out.cell 36
    simp only [List.getElem?_toArray] at e60
    rw [HAT.out.2.2.2.2.1] at e60
    clear e59 c29 k29 f39
    go_wp2_with (go_at_call 116;refine (HQQ9.out.use (fun vp vf h=>CALL9.out _ vp vf h)).mono ?_;rintro e w10 ⟨rfl,ss5,rel5,rq5⟩;have REL5:=Za rel5;have RQ5:=Za rq5;clear rel5 rq5)
    go_ret
    refine ⟨by rw [HN0.out,← hwn2];rfl,ss5,REL5.out,RQ5.out.out⟩
theorem Ztv (g room:Nat):∀n,FreeC g room n:=fun n=>Nat.strongRecOn n (fun N IH=>Zpk g room N IH)
set_option maxHeartbeats 1000000 in
theorem Zpm {w:World} {g:Nat} {vp vf:Value} {room:Nat} {ss:List Sp} {fr:List Nat} (h:Rs w g vp vf room ss fr) (q:Int) (ho:(sat ss q).own=0):Calls Tryz.prog 58 #[.pointer (some ⟨g,0,none⟩),.int .i64 q] w fun e w'=>e=.returned (.tuple #[.int .i64 0,.int .i64 7])∧Below w.heap.size w w':=by
 have c0:=h.c0
 have HH:=Za (Zbw h q)
 have HA:=Za (Zbf h q)
 have hf:=Zoa (Zcd h q)
 rw [ho] at hf
 by_cases hk:(sat ss q).kind=0
 ·rw [show decide ((sat ss q).kind≠0)=false by simp [hk]] at HH
  clear h hk ho hf HA
  go_enter Tryz.func58,Tryz.ntmps58
  go_wp2_with (first
   |(go_at_call 83;refine (Zag g _ c0).mono ?_;rintro e w' ⟨rfl,hx⟩;rw [hx];clear hx w')
   |(go_at_call 84;refine HH.out.mono ?_;rintro e w' ⟨rfl,hx⟩;rw [hx];clear hx w'))
  go_ret2
  exact ⟨rfl,Below.refl _ _⟩
 ·rw [show decide ((sat ss q).kind≠0)=true by simp [hk]] at HH
  generalize (sz7 (sat ss q)).toArray=X at HA hf
  clear h hk ho
  go_enter Tryz.func58,Tryz.ntmps58
  go_wp2_with (first
   |(go_at_call 83;refine (Zag g _ c0).mono ?_;rintro e w' ⟨rfl,hx⟩;rw [hx];clear hx w')
   |(go_at_call 84;refine HH.out.mono ?_;rintro e w' ⟨rfl,hx⟩;rw [hx];clear hx w')
   |(go_at_call 107;refine HA.out.mono ?_;rintro e w1 ⟨rfl,b1⟩;have HB1:=Za b1;clear b1))
  go_ret2
  exact ⟨rfl,HB1.out⟩
set_option maxHeartbeats 2000000 in
theorem Zxm {w:World} {g:Nat} {vp vf:Value} {room:Nat} {ss:List Sp} {fr fr':List Nat} {cs cs':List (Nat×Ce)} {n:Nat} (h:Rs w g vp vf room ss fr) (hr:Rel7 cs [] [] ss) (hW:Wf cs []) (i:Nat) (ho:0<own cs [] i) (hM:∀j,cc cs j≤1073741824) (hF:fr.length+noc cs≤65536) (R:Run cs fr [i+1] cs' fr' n):Calls Tryz.prog 58 #[.pointer (some ⟨g,0,none⟩),.int .i64 ((i:Int)+1)] w fun e w'=>e=.returned (.tuple #[.int .i64 (n:Int),.int .i64 0])∧∃ss',Rel7 cs' [] [] ss'∧RT7 w g (rsB g vp vf ss) room ss' fr' w':=by
 have c0:=h.c0
 have hc:0<cc cs i:=by
  have:=hW.own i
  omega
 have hil:i<ss.length:=by rw [hr.len];exact Zbd hc
 have hk:=(hr.inn hW i).2 hc
 obtain ⟨p,hp,hr2⟩:=hr.hold hW ho hil
 have hpb:p<1073741824:=by
  have h1:=hr.own i
  have h2:=hW.own i
  have h3:=hM i
  omega
 have HH:=Za (Zbw h ((i:Int)+1))
 have HA:=Za (Zbf h ((i:Int)+1))
 rw [Zei] at HH HA
 rw [show decide ((spAt ss i).kind≠0)=true by simp [hk]] at HH
 have hf:=Zoa (Zco h i)
 rw [hp] at hf
 generalize (sz7 (spAt ss i)).toArray=X at HA hf
 have HS:Hid (∀w',Below w.heap.size w w'→Rs w' g vp vf room ss fr):=fun w' hb=>h.grow hb
 have HFR:Hid (∀wr vp' vf',Rs wr g vp' vf' room (ss.set i { spAt ss i with own:=p}) fr→Calls Tryz.prog 116 #[.pointer (some ⟨g,0,none⟩),.int .i64 ((i:Int)+1)] wr fun e w'=>e=.returned (.int .i64 (n:Int))∧∃ss',Rel7 cs' [] [] ss'∧RT7 wr g (rsB g vp' vf' (ss.set i { spAt ss i with own:=p})) room ss' fr' w'):=fun wr vp' vf' hR=>Ztv g room n cs cs' i [] _ fr fr' wr vp' vf' (hW.less i ho) hM hF hr2 hR R
 have HK:=Za hk
 have HIL:=Za hil
 have HP:=Za hp
 obtain ⟨b,c,hvp,-⟩:=h.num i hil
 subst hvp
 obtain ⟨q,hq⟩:∃q:Int,q=(i:Int)+1:=⟨_,rfl⟩
 rw [← hq] at HH HA HFR
 rw [← hq]
 have h3:q-1=(i:Int):=by rw [hq];exact Int.add_sub_cancel _ _
 have hw2:wrap64 (p:Int)=(p:Int):=Go.IntWalk.wrap64_in _ (by omega)
 obtain ⟨nn,hnn⟩:∃nn,nn=ss.length:=⟨_,rfl⟩
 have HNN:=Za hnn
 rw [← hnn] at HS
 rw [← hnn]
 have hin:i<nn:=by rw [hnn];exact hil
 have hpn: ¬((p:Int)+1=0):=by omega
 clear h hr hW ho hM hF R hc hil hk hp hr2 hpb hq hnn
 go_enter Tryz.func58,Tryz.ntmps58
 go_wp2_with (first
  |(go_at_call 83;refine (Zag g _ c0).mono ?_;rintro e w' ⟨rfl,hx⟩;rw [hx];clear hx w')
  |(go_at_call 84;refine HH.out.mono ?_;rintro e w' ⟨rfl,hx⟩;rw [hx];clear hx w')
  |(go_at_call 107;refine HA.out.mono ?_;rintro e w1 ⟨rfl,b1⟩;have HR1:=Za (HS.out _ b1);have c2:=HR1.out.c2;obtain ⟨b9,c9,e9,k1,k2,k3,j0,j1,hw⟩:=HR1.out.num i HIL.out;rw [← HNN.out] at j1;injection e9 with e91 _ e93;injection e91 with e91;injection e91 with e91;subst e91;subst e93;rw [HP.out] at k1;have k4:=k3 (i * 39+37);have HB1:=Za b1;have HR2:=Za (HR1.out.setOwn i HK.out p);clear b1 k2 k3)
  |(go_at_call 116;refine (HFR.out _ _ _ HR2.out).mono ?_;rintro e w3 ⟨rfl,ss',rel',vp',vf',t1,t2,t3⟩))
 go_ret2
 have hsub:=Zlr (g:=g) (vp:=.slice (some ⟨b,0,none⟩) nn c) (vf:=vf) (s':={ spAt ss i with own:=p}) HIL.out rfl
 have m1:Mod (rsB g (.slice (some ⟨b,0,none⟩) nn c) vf ss) w (w1.setCell ⟨b,i * 39+37,none⟩ (.int .i64 (p:Int))):=(Mod.of_below HB1.out _).trans' (Mod.setCell _ _ _ _ (Zu.2 (.inr (.inl rfl))))
 exact ⟨rfl,ss',rel',vp',vf',t1,m1.trans (fun k hk=>.inl (hsub k hk)) t2,(show New _ w _ from fun k hk=>.inl (hsub k hk)).trans m1.size t3⟩
theorem Ylf {room:Nat} {cs cs':List (Nat×Ce)} {fr:List Nat} (h:Inv room (cs.map pl) fr) (hl:cs'.length=cs.length) (hc:∀i,cc cs' i=cc cs i) (hn:noc cs'=noc cs):Inv room (cs'.map pl) fr:=by
 refine ⟨h.r1,h.r2,by have:=h.len;rw [List.length_map] at *;omega,h.nod,fun s hs=>?_,?_,fun i=>?_⟩
 ·obtain ⟨a,b,c⟩:=h.free s hs
  rw [Zal] at *
  rw [List.length_map] at *
  exact ⟨a,by omega,by rw [hc];exact c⟩
 ·have:=h.sum
  rw [List.length_map] at *
  unfold noc at hn
  omega
 ·have:=h.most i
  rw [Zal] at *
  rw [hc]
  exact this
theorem Zsc {room:Nat} {cs cs':List (Nat×Ce)} {fr:List Nat} (h:Inv room (cs.map pl) fr) (k:AbOf cs cs'):Inv room (cs'.map pl) fr:=Ylf h k.len k.cc k.noc
theorem Zyr {room:Nat} {cs:List (Nat×Ce)} {fr:List Nat} (h:Inv room (cs.map pl) fr) (hf: ¬Full room cs fr) (x:Ce):Inv room ((tkC cs fr (1,x)).map pl) fr.dropLast:=by
 rcases Zes cs fr with ⟨s,fr0,rfl,e1,e2⟩ | ⟨rfl,e1,e2⟩
 ·rw [e2,← map_set,List.dropLast_concat]
  exact h.takeFree (cz x)
 ·rw [e2,← Zrw]
  refine h.takeNew ?_ (cz x)
  rw [List.length_map]
  apply Nat.lt_of_not_le
  exact fun q=>hf ⟨rfl,q⟩
theorem Ydu {room:Nat} {cs:List (Nat×Ce)} {fr:List Nat} (h:Inv room (cs.map pl) fr) {i:Nat} (hc:0<cc cs i) (hm:cc cs i<1073741824):Inv room ((moreC cs i).map pl) fr:=by
 unfold moreC
 rw [← map_set]
 exact h.held (by rw [Zal];exact hc) (by omega) (by omega) _
theorem Yij {room:Nat} {cs cs':List (Nat×Ce)} {fr fr' st:List Nat} {n:Nat} (r:Run cs fr st cs' fr' n) (h:Inv room (cs.map pl) fr):Inv room (cs'.map pl) fr':=by
 induction r with
 | done cs fr=>exact h
 | @keep cs fr i st cs' fr' n hc _ ih=>
  refine ih ?_
  unfold lessC
  rw [← map_set]
  have hm:=h.most i
  rw [Zal] at hm
  exact h.held (by rw [Zal];omega) (by omega) (by omega) _
 | @free cs fr i st cs' fr' n hc _ ih=>
  refine ih ?_
  unfold freeC
  refine Zsc (Zsc ?_ (Zgg _ _)) (Zgg _ _)
  rw [← map_set]
  exact h.drop (by rw [Zal];omega) _
theorem Zns {room:Nat} {cs cs':List (Nat×Ce)} {fr:List Nat} {d l r:Nat} (h:Inv room (cs.map pl) fr) (hf: ¬Full room cs fr) (hI:InnR cs fr d l r cs'):Inv room (cs'.map pl) fr.dropLast:=by
 obtain ⟨KF,_,rfl⟩:=hI
 exact Zsc (Zsc (Zyr h hf _) (Zcl _ _)) (Zcl _ _)
theorem Inv.lenC {room:Nat} {cs:List (Nat×Ce)} {fr:List Nat} (h:Inv room (cs.map pl) fr):cs.length≤room:=by have:=h.len;rwa [List.length_map] at this
theorem Inv.mostC {room:Nat} {cs:List (Nat×Ce)} {fr:List Nat} (h:Inv room (cs.map pl) fr) (i:Nat):cc cs i≤1073741824:=by have:=h.most i;rwa [Zal] at this
theorem Inv.sumC {room:Nat} {cs:List (Nat×Ce)} {fr:List Nat} (h:Inv room (cs.map pl) fr):fr.length+noc cs≤65536:=by
 have h1:=h.sum
 have h2:=h.len
 have h3:=h.r2
 unfold noc
 omega
def Hr (w0:World) (S:List Nat) (w:World) (q room:Nat) (cs:List (Nat×Ce)) (fr:List Nat):Prop:=(∃ss,RT7 w0 q S room ss fr w∧Rel7 cs [] [] ss)∧Wf cs []∧Inv room (cs.map pl) fr
theorem Ylo {room:Nat} {cs:List (Nat×Ce)} {ss:List Sp} {fr:List Nat} (R:Rel7 cs [] [] ss):Full room ss fr↔Full room cs fr:=by
 unfold Full
 rw [R.len]
section
variable {w0 w:World} {S:List Nat} {q room:Nat} {cs:List (Nat×Ce)} {fr:List Nat}
theorem Hr.here {vp vf:Value} {ss:List Sp} (s:Rs w q vp vf room ss fr) (R:Rel7 cs [] [] ss) (W:Wf cs []) (I:Inv room (cs.map pl) fr):Hr w (rsB q vp vf ss) w q room cs fr:=⟨⟨ss,⟨vp,vf,s,Mod.refl _ _,New.refl _ _⟩,R⟩,W,I⟩
theorem Hr.mod (h:Hr w0 S w q room cs fr):Mod S w0 w:=by obtain ⟨⟨_,⟨_,_,_,m,_⟩,_⟩,_⟩:=h;exact m
theorem Hr.kq {P:World→Prop} (h:Hr w0 S w q room cs fr) (k:Kq S w0 P):P w:=k w h.mod
theorem Hr.wf (h:Hr w0 S w q room cs fr):Wf cs []:=h.2.1
theorem Hr.inv (h:Hr w0 S w q room cs fr):Inv room (cs.map pl) fr:=h.2.2
theorem Hr.frok (h:Hr w0 S w q room cs fr):FrOk cs fr:=Zdb h.inv
theorem Hr.grow {w':World} (h:Hr w0 S w q room cs fr) (hb:Below w.heap.size w w'):Hr w0 S w' q room cs fr:=by
 obtain ⟨⟨ss,⟨vp,vf,s,m,n⟩,R⟩,W⟩:=h
 exact ⟨⟨ss,⟨vp,vf,s.grow hb,m.trans' (Mod.of_below hb S),n⟩,R⟩,W⟩
theorem Hr.from (h:Hr w0 S w q room cs fr):∃S',Hr w S' w q room cs fr∧New S w0 S'∧(∀P:World→Prop,Kq S w0 P→Kq S' w P)∧(∀k∈S',k<w.heap.size)∧∀w' cs' fr',Hr w S' w' q room cs' fr'→Hr w0 S w' q room cs' fr':=by
 obtain ⟨⟨ss,⟨vp,vf,s,m,n⟩,R⟩,W,I⟩:=h
 refine ⟨rsB q vp vf ss,Hr.here s R W I,n,fun P k=>k.turn m n,s.lts,fun w' cs' fr' k=>⟨?_,k.2⟩⟩
 obtain ⟨⟨ss',⟨vp',vf',s',m',n'⟩,R'⟩,_⟩:=k
 exact ⟨ss',⟨vp',vf',s',m.trans n m',n.trans m.size n'⟩,R'⟩
theorem Hr.rebase {w1:World} (h:Hr w S w q room cs fr) (hb:Below w.heap.size w w1):Hr w1 S w1 q room cs fr:=by
 obtain ⟨⟨ss,⟨vp,vf,s,m,n⟩,R⟩,W⟩:=h
 refine ⟨⟨ss,⟨vp,vf,s.grow hb,Mod.refl _ _,fun k hk=>?_⟩,R⟩,W⟩
 rcases n k hk with q | q
 ·exact .inl q
 ·have:=s.lts k hk
  omega
theorem Hr.back {w1 w2:World} (hb:Below w.heap.size w w1) (h:Hr w1 S w2 q room cs fr):Hr w S w2 q room cs fr:=by
 obtain ⟨⟨ss,⟨vp,vf,s,m,n⟩,R⟩,W⟩:=h
 refine ⟨⟨ss,⟨vp,vf,s,(Mod.of_below hb S).trans' m,fun k hk=>?_⟩,R⟩,W⟩
 rcases n k hk with q | q
 ·exact .inl q
 ·exact .inr (Nat.le_trans hb.size q)
theorem Hr.tell {f:FuncId} {args:Array Value} {E:Ending} (h:Hr w0 S w q room cs fr) (hc:∀vp vf ss,Rs w q vp vf room ss fr→Rel7 cs [] [] ss→Calls Tryz.prog f args w fun e w'=>e=E∧Below w.heap.size w w'):Calls Tryz.prog f args w fun e w'=>e=E∧Below w.heap.size w w':=by
 obtain ⟨⟨_,⟨_,_,s,_,_⟩,R⟩,_,_⟩:=h
 exact hc _ _ _ s R
theorem Hr.same {f:FuncId} {args:Array Value} {E:Ending} (h:Hr w0 S w q room cs fr) (hc:∀vp vf ss,Rs w q vp vf room ss fr→Rel7 cs [] [] ss→Calls Tryz.prog f args w fun e w'=>e=E∧Below w.heap.size w w'):Calls Tryz.prog f args w fun e w'=>e=E∧Hr w0 S w' q room cs fr:=(h.tell hc).mono fun _ _ ⟨e1,b⟩=>⟨e1,h.grow b⟩
theorem Hr.turn {f:FuncId} {args:Array Value} {E:Ending} {cs':List (Nat×Ce)} {fr':List Nat} (h:Hr w0 S w q room cs fr) (W':Wf cs' []) (I':Inv room (cs'.map pl) fr') (hc:∀vp vf ss,Rs w q vp vf room ss fr→Rel7 cs [] [] ss→Calls Tryz.prog f args w fun e w'=>e=E∧∃ss',Rel7 cs' [] [] ss'∧RT7 w q (rsB q vp vf ss) room ss' fr' w'):Calls Tryz.prog f args w fun e w'=>e=E∧Hr w0 S w' q room cs' fr':=by
 obtain ⟨⟨ss,⟨vp,vf,s,m,n⟩,R⟩,W,I⟩:=h
 refine (hc _ _ _ s R).mono ?_
 rintro e w' ⟨e1,ss',R',vp',vf',s',m',n'⟩
 exact ⟨e1,⟨ss',⟨vp',vf',s',m.trans n m',n.trans m.size n'⟩,R'⟩,W',I'⟩
theorem Zyz (h:Hr w0 S w q room cs fr) (i:Nat) (hc:0<cc cs i) (hm:cc cs i<1073741824):Calls Tryz.prog 114 #[.pointer (some ⟨q,0,none⟩),.int .i64 ((i:Int)+1)] w fun e w'=>e=.returned (.int .i64 0)∧Hr w0 S w' q room (moreC cs i) fr:=by
 have W:=h.wf
 refine h.turn (W.more i hc) (Ydu h.inv hc hm) fun _ _ _ s R=>?_
 have hs:=(Zce R W ((i:Int)+1)).sum
 rw [Zei,show cot cs ((i:Int)+1)=cc cs i by rw [cot,if_pos (by omega),show ((i:Int)+1-1).toNat=i by omega]] at hs
 exact (Zxj s i ((R.inn W i).2 hc) (by omega)).mono fun e w3 ⟨e1,t⟩=>⟨e1,_,R.more W hc,t⟩
theorem Zpy (h:Hr w0 S w q room cs fr) (x:Int) (hc:cot cs x=0):Calls Tryz.prog 114 #[.pointer (some ⟨q,0,none⟩),.int .i64 x] w fun e w'=>e=.returned (.int .i64 7)∧Hr w0 S w' q room cs fr:=by
 have W:=h.wf
 refine h.same fun _ _ _ s R=>(Ztu s x ?_).mono fun e w'' ⟨e1,e2⟩=>⟨e1,by rw [e2];exact Below.refl _ _⟩
 rw [(Zce R W x).kind,W.cat0 hc]
 rfl
theorem Znw (h:Hr w0 S w q room cs fr) (i:Nat) (hc:cc cs i=1073741824):Calls Tryz.prog 114 #[.pointer (some ⟨q,0,none⟩),.int .i64 ((i:Int)+1)] w fun e w'=>e=.returned (.int .i64 4)∧Hr w0 S w' q room cs fr:=by
 have W:=h.wf
 refine h.same fun _ _ _ s R=>?_
 have hs:=(Zce R W ((i:Int)+1)).sum
 rw [Zei,show cot cs ((i:Int)+1)=cc cs i by rw [cot,if_pos (by omega),show ((i:Int)+1-1).toNat=i by omega]] at hs
 exact Zph s i ((R.inn W i).2 (by omega)) (by omega)
theorem Zza (h:Hr w0 S w q room cs fr) (i:Nat) (ho:0<own cs [] i) {cs':List (Nat×Ce)} {fr':List Nat} {n:Nat} (r:Run cs fr [i+1] cs' fr' n):Calls Tryz.prog 58 #[.pointer (some ⟨q,0,none⟩),.int .i64 ((i:Int)+1)] w fun e w'=>e=.returned (.tuple #[.int .i64 (n:Int),.int .i64 0])∧Hr w0 S w' q room cs' fr':=by
 have W:=h.wf
 exact h.turn (r.step (W.less i ho)).wf (Yij r h.inv) fun _ _ _ s R=>Zxm s R W i ho h.inv.mostC h.inv.sumC r
theorem Znx (h:Hr w0 S w q room cs fr) (x:Int) (hm:cot cs x≤(cat cs x).ab):Calls Tryz.prog 58 #[.pointer (some ⟨q,0,none⟩),.int .i64 x] w fun e w'=>e=.returned (.tuple #[.int .i64 0,.int .i64 7])∧Hr w0 S w' q room cs fr:=
 h.same fun _ _ _ s R=>Zpm s x (by rw [(Zce R h.wf x).own];omega)
theorem Yir (h:Hr w0 S w q room cs fr) (h5:room≤5000) (K:List Int) (v v':Value) (bs:List Int) (hr:Reads w v bs) (hK:Key K) (hl:bs.length≤1024) (hf: ¬Full room cs fr) (ok:CeOk (lfC (lfD K (vaD bs)) K v' bs)):Calls Tryz.prog 127 #[.pointer (some ⟨q,0,none⟩),.agg (B K),v] w fun e w'=>e=.returned (.tuple #[.int .i64 (tkH cs fr:Int),.int .i64 0])∧Hr w0 S w' q room (tkC cs fr (1,lfC (lfD K (vaD bs)) K v' bs)) fr.dropLast:=by
 have W:=h.wf
 have I:=h.inv
 have hF:=h.frok
 have hbs:Bytes bs:=by obtain ⟨_,_,_,_,_,hb,_⟩:=hr;exact hb
 have tk:=(Zgn hF (1,lfC (lfD K (vaD bs)) K v' bs)).2
 refine h.turn (W.leaf tk (Zpv K v' bs hbs hl) ok rfl) (Zyr I hf _) fun _ _ _ s R=>?_
 refine (Zxi s (hF.slots R.len) K v bs hr hK hl (fun f=>hf ((Ylo R).1 f)) (by rw [R.len];have:=I.lenC;omega)).mono ?_
 rintro e w3 ⟨a,c,rfl,t⟩
 exact ⟨by rw [Zgo fr R.len],_,R.leaf hF _ K v' _ bs,t⟩
theorem Ylk (h5:room≤5000) (I:Inv room (cs.map pl) fr) (W:Wf cs []) {d l r:Nat} (hd:d<256) (hml:mayP cs (l:Int)) (hmr:mayP cs (r:Int)) {u:Bool} (hu:u=true↔Und (sdC cs l).key (sdC cs r).key (d:Int)) {vp vf:Value} {ss:List Sp} (s:Rs w q vp vf room ss fr) (R:Rel7 cs [] [] ss):Fit7 w q d l r (fitP d (sdC cs l) (sdC cs r) u):=fun w'' hb=>by
 have:=Ykp (s.grow hb) R W (by have:=I.lenC;omega) hd hml hmr (u:=u) (by rw [Zaj,Zaj];exact hu)
 rwa [Zaj,Zaj] at this
theorem Yfz (W:Wf cs []) (hF:FrOk cs fr) {cs':List (Nat×Ce)} {d l r:Nat} (hd:d<256) (hml:mayP cs (l:Int)) (hmr:mayP cs (r:Int)) {u:Bool} (hu:u=true↔Und (sdC cs l).key (sdC cs r).key (d:Int)) (hf:fitP d (sdC cs l) (sdC cs r) u=true) (hI:InnR cs fr d l r cs'):Wf cs' []:=by
 obtain ⟨K,hK,rfl⟩:=hI
 have tk:=(Zgn hF (1,inC (inD (sdD cs l) (sdD cs r)) K ((sdC cs l).sz+(sdC cs r).sz) d l r)).2
 exact W.inner tk (Zyt W hd hml hmr hu hf hK) ⟨Zr _,Zav _,hK.1,none,0,rfl⟩ rfl hml.own hmr.own
theorem Ydz (h:Hr w0 S w q room cs fr) (h5:room≤5000) (d l r:Nat) (hd:d<256) (hml:mayP cs (l:Int)) (hmr:mayP cs (r:Int)) (u:Bool) (hu:u=true↔Und (sdC cs l).key (sdC cs r).key (d:Int)) (hf:fitP d (sdC cs l) (sdC cs r) u=true) (hfu: ¬Full room cs fr) {cs':List (Nat×Ce)} (hI:InnR cs fr d l r cs'):Calls Tryz.prog 129 #[.pointer (some ⟨q,0,none⟩),.int .i64 (d:Int),.int .i64 (l:Int),.int .i64 (r:Int)] w fun e w'=>e=.returned (.tuple #[.int .i64 (tkH cs fr:Int),.int .i64 0])∧Hr w0 S w' q room cs' fr.dropLast:=by
 have W:=h.wf
 have I:=h.inv
 have hF:=h.frok
 have W':=Yfz W hF hd hml hmr hu hf hI
 have hne:l≠0→l≠r:=by
  obtain ⟨KF,hKF,_⟩:=hI
  exact fun h0=>Zln (Zyt W hd hml hmr hu hf hKF) h0
 refine h.turn W' (Zns I hfu hI) fun _ _ _ s R=>?_
 have fit:=Ylk h5 I W hd hml hmr hu s R
 rw [hf] at fit
 refine (Ztt s (hF.slots R.len) R W d l r hd hml hmr fit (fun f=>hfu ((Ylo R).1 f)) (by rw [R.len];have:=I.lenC;omega) (Ykw R W I.mostC hml) (Yna R W I.mostC hml hmr hne)).mono ?_
 rintro e w3 ⟨rfl,t⟩
 exact ⟨by rw [Zgo fr R.len],_,R.inner W W' hF hml hmr hI,t⟩
end
end Go.Proofs.YtgfdgjkbcdmboaaGreatDoor
namespace Go.Proofs.YtgfdgjkbcdmboaaGreatDoor
set_option maxRecDepth 20000
open Go.RowKit
structure Lag (cs csR:List (Nat×Ce)) (L:List Nat):Prop where
 len:csR.length=cs.length
 lce:∀i,ce csR i=ce cs i
 lcc:∀i,cc cs i=cc csR i+L.count (i+1)
 occ:∀h∈L,h=0∨0<cc csR (h-1)
section
variable {cs csR:List (Nat×Ce)} {L:List Nat} {fr:List Nat}
theorem Lag.frok (h:Lag cs csR L) (hF:FrOk cs fr):FrOk csR fr:=fun s hs=>by
 obtain ⟨a,b,c⟩:=hF s hs
 have:=h.lcc (s-1)
 exact ⟨a,by rw [h.len];exact b,by omega⟩
theorem Lag.tk (h:Lag cs csR L) (fr:List Nat):tkH csR fr=tkH cs fr:=Zgo fr h.len
theorem Lag.full (h:Lag cs csR L) (room:Nat):Full room csR fr↔Full room cs fr:=by
 unfold Full
 rw [h.len]
theorem Lag.sd (h:Lag cs csR L) (x:Nat):sdC csR x=sdC cs x∧sdD csR x=sdD cs x:=by
 unfold sdC sdD
 rw [h.lce]
 exact ⟨rfl,rfl⟩
theorem Lag.own (h:Lag cs csR L) (i:Nat):own csR [] i=Go.Proofs.YtgfdgjkbcdmboaaGreatDoor.own cs [] i-L.count (i+1):=by
 unfold Go.Proofs.YtgfdgjkbcdmboaaGreatDoor.own
 have:=h.lcc i
 rw [h.lce,List.count_nil]
 omega
theorem Lag.fill (h:Lag cs csR L) {p:Nat×Ce} (hF:FrOk cs fr) (hp:0<p.1):Lag (tkC cs fr p) (tkC csR fr p) L:=by
 obtain ⟨t1,tk⟩:=Zgn hF p
 obtain ⟨_,tkR⟩:=Zgn (h.frok hF) p
 rw [h.tk fr] at tkR
 refine ⟨by rw [tkR.len,tk.len,h.len],fun i=>by rw [tkR.ce,tk.ce,h.lce],fun i=>?_,fun x hx=>?_⟩
 ·rw [tkR.cc,tk.cc]
  have hl:=h.lcc i
  by_cases e:i=tkH cs fr-1
  ·rw [if_pos e,if_pos e]
   rw [e,tk.vac] at hl
   rw [e]
   omega
  ·rw [if_neg e,if_neg e]
   exact hl
 ·rcases h.occ x hx with e | e
  ·exact .inl e
  ·right
   rw [tkR.cc]
   split
   ·exact hp
   ·exact e
theorem Lag.start {ss:List Nat} (hm:HmOk cs ss csR) (hv:∀x∈ss,x=0∨0<cc cs (x-1)):Lag csR cs ss:=⟨hm.len.symm,fun i=>(hm.ce i).symm,hm.cc,hv⟩
theorem Lag.more {s:Nat} (h:Lag cs csR (L++[s])) (hs:1≤s):0<cc csR (s-1)∧Lag cs (moreC csR (s-1)) L:=by
 have hi:0<cc csR (s-1):=(h.occ s (by simp)).resolve_left (by omega)
 refine ⟨hi,by rw [Zjc,h.len],fun i=>by rw [Zda,h.lce],fun i=>?_,fun x hx=>?_⟩
 ·rw [Zfa hi,h.lcc i,List.count_append,List.count_singleton]
  by_cases e:s=i+1
  ·rw [if_pos (by simp [e]),if_pos (by omega)]
   omega
  ·rw [if_neg (by simpa using e),if_neg (by omega)]
   omega
 ·rcases h.occ x (by simp [hx]) with e | e
  ·exact .inl e
  ·right
   rw [Zfa hi]
   omega
theorem Lag.skip (h:Lag cs csR (L++[0])):Lag cs csR L:=⟨h.len,h.lce,fun i=>by
 have:=h.lcc i
 rw [List.count_append,List.count_singleton,if_neg (by simp)] at this
 exact this,fun x hx=>h.occ x (by simp [hx])⟩
theorem Lag.end (h:Lag cs csR []):csR=cs:=by
 apply List.ext_getElem?
 intro i
 by_cases hi:i<cs.length
 ·have h1:=h.lcc i
  have h2:=h.lce i
  unfold Go.Proofs.YtgfdgjkbcdmboaaGreatDoor.cc at h1
  unfold Go.Proofs.YtgfdgjkbcdmboaaGreatDoor.ce at h2
  rw [List.getElem?_eq_getElem hi,List.getElem?_eq_getElem (by rw [h.len];exact hi)] at *
  simp only [Option.getD_some,List.count_nil,Nat.add_zero] at h1 h2
  exact congrArg some (Prod.ext h1.symm h2)
 ·rw [List.getElem?_eq_none (by rw [h.len];omega),List.getElem?_eq_none (by omega)]
theorem Ymb (cs:List (Nat×Ce)) (l r i:Nat) (hl:l-1<cs.length∨l=0) (hr:r-1<cs.length∨r=0):ce (upA (upA cs l) r) i= { ce cs i with ab:=(ce cs i).ab+(if l=i+1 then 1 else 0)+(if r=i+1 then 1 else 0)}:=by
 have u1:=Zcl cs l
 have uu:=u1.trans (Zcl (upA cs l) r)
 have hc:=uu.core i
 rw [hc,Zff _ r i (by rw [u1.len];exact hr),Zff _ l i hl]
theorem Lag.inner (h:Lag cs csR L) (hF:FrOk cs fr) {cs':List (Nat×Ce)} {d l r:Nat} (hl:l-1<cs.length∨l=0) (hr:r-1<cs.length∨r=0) (hI:InnR cs fr d l r cs'):∃csR',InnR csR fr d l r csR'∧Lag cs' csR' L:=by
 obtain ⟨KF,hKF,rfl⟩:=hI
 obtain ⟨a1,a2⟩:=h.sd l
 obtain ⟨b1,b2⟩:=h.sd r
 refine ⟨_,⟨KF,by rw [a1,b1];exact hKF,rfl⟩,?_⟩
 rw [a1,a2,b1,b2]
 have f:=h.fill (p:=(1,inC (inD (sdD cs l) (sdD cs r)) KF ((sdC cs l).sz+(sdC cs r).sz) d l r)) hF (by show (0:Nat)<1;omega)
 generalize (1,inC (inD (sdD cs l) (sdD cs r)) KF ((sdC cs l).sz+(sdC cs r).sz) d l r)=p at f
 have tk:=(Zgn hF p).2
 have hL:cs.length≤(tkC cs fr p).length:=by rw [tk.len];omega
 have hl2:l-1<(tkC cs fr p).length∨l=0:=by rcases hl with e | e;exact .inl (by omega);exact .inr e
 have hr2:r-1<(tkC cs fr p).length∨r=0:=by rcases hr with e | e;exact .inl (by omega);exact .inr e
 have u:=(Zcl (tkC cs fr p) l).trans (Zcl _ r)
 have v:=(Zcl (tkC csR fr p) l).trans (Zcl _ r)
 refine ⟨by rw [u.len,v.len,f.len],fun i=>?_,fun i=>by rw [u.cc,v.cc,f.lcc],fun x hx=>by rw [v.cc];exact f.occ x hx⟩
 rw [Ymb _ l r i hl2 hr2,Ymb _ l r i (by rw [f.len];exact hl2) (by rw [f.len];exact hr2),f.lce]
end
theorem Yhb {K:List Int} {L:List Nat} {s:Nat} {cs cs2:List (Nat×Ce)} {fr fr2:List Nat} {t t2:Nat} (h:Rz K (L++[s]) cs fr t cs2 fr2 t2):∃cs1,InnR cs fr L.length (tl K L.length t s) (tr K L.length t s) cs1∧Rz K L cs1 fr.dropLast (tkH cs fr) cs2 fr2 t2:=by
 generalize hX:L++[s]=X at h
 cases h with
 | done=>simp at hX
 | step h1 h2=>
  obtain ⟨rfl,e⟩:=List.append_inj' hX rfl
  obtain rfl:s=_:=by simpa using e
  exact ⟨_,h1,h2⟩
theorem Ykf {K:List Int} {cs cs2:List (Nat×Ce)} {fr fr2:List Nat} {t t2:Nat} (h:Rz K [] cs fr t cs2 fr2 t2):cs2=cs∧fr2=fr∧t2=t:=by
 generalize hX:([]:List Nat)=X at h
 cases h with
 | done=>exact ⟨rfl,rfl,rfl⟩
 | step h1 h2=>simp at hX
structure RfI (cs0:List (Nat×Ce)) (E:List Ent) (K bs:List Int) (ss:List Nat) (room m:Nat) (csP csR:List (Nat×Ce)) (fr:List Nat) (top:Nat) (cs2:List (Nat×Ce)) (fr2:List Nat) (topF:Nat):Prop where
 rz:Rz K (ss.take m) csP fr top cs2 fr2 topF
 ri:RzI cs0 E K bs ss m csP top
 lag:Lag csP csR (ss.take m)
 inv:Inv room (csP.map pl) fr
def csH (csR:List (Nat×Ce)) (s:Nat):List (Nat×Ce):=if s=0 then csR else moreC csR (s-1)
theorem Zmt {ss:List Nat} {m:Nat} (h:m<ss.length):ss.take (m+1)=ss.take m++[ss.getD m 0]:=by
 rw [List.take_add_one,List.getElem?_eq_getElem h,List.getD_eq_getElem?_getD,List.getElem?_eq_getElem h]
 rfl
structure RfS (csR:List (Nat×Ce)) (fr:List Nat) (K:List Int) (m top s room:Nat):Prop where
 occ:s≠0→0<cc csR (s-1)
 ml:mayP (csH csR s) (tl K m top s:Int)
 mr:mayP (csH csR s) (tr K m top s:Int)
 fit:∃u,(u=true↔Und (sdC (csH csR s) (tl K m top s)).key (sdC (csH csR s) (tr K m top s)).key (m:Int))∧fitP m (sdC (csH csR s) (tl K m top s)) (sdC (csH csR s) (tr K m top s)) u=true
 full: ¬Full room (csH csR s) fr
theorem Zxk {cs0 csP csR cs2:List (Nat×Ce)} {E:List Ent} {K bs:List Int} {ss fr fr2:List Nat} {room m top topF:Nat} (b:BesOk cs0 E K ss) (hm:m<ss.length) (hroom:noc cs0+258≤room) (I:RfI cs0 E K bs ss room (m+1) csP csR fr top cs2 fr2 topF):
  RfS csR fr K m top (ss.getD m 0) room∧∃csP' csR',InnR (csH csR (ss.getD m 0)) fr m (tl K m top (ss.getD m 0)) (tr K m top (ss.getD m 0)) csR'∧RfI cs0 E K bs ss room m csP' csR' fr.dropLast (tkH (csH csR (ss.getD m 0)) fr) cs2 fr2 topF:=by
 obtain ⟨hml,hmr,u,hu,hf,next⟩:=Zwy b hm I.ri
 have hF:=Zdb I.inv
 have rz:=I.rz
 have lag:=I.lag
 rw [Zmt hm] at rz lag
 obtain ⟨csP',hI,rz'⟩:=Yhb rz
 have hlen:(ss.take m).length=m:=by rw [List.length_take];omega
 rw [hlen] at hI
 obtain ⟨s,hs⟩:∃s,s=ss.getD m 0:=⟨_,rfl⟩
 rw [← hs] at hml hmr hu hf next lag hI ⊢
 have hold:(s≠0→0<cc csR (s-1))∧Lag csP (csH csR s) (ss.take m):=by
  unfold csH
  by_cases e:s=0
  ·rw [if_pos e]
   rw [e] at lag
   exact ⟨fun q=>absurd e q,lag.skip⟩
  ·rw [if_neg e]
   obtain ⟨a,c⟩:=lag.more (by omega)
   exact ⟨fun _=>a,c⟩
 obtain ⟨h1,lagH⟩:=hold
 have W:=I.ri.wf
 have full: ¬Full room csP fr:=fun f=>by
  have h1:=I.inv.sum
  have h2:=I.ri.noc
  have h3:=b.len
  rw [f.1,List.length_map] at h1
  have:=f.2
  unfold noc at h2 hroom
  simp at h1
  omega
 have ownH:∀i,own (csH csR s) [] i=own cs0 [] i+(if s=i+1 then 1 else 0)+(if top=i+1 then 1 else 0):=fun i=>by
  rw [lagH.own]
  have:=I.ri.own i
  rw [Zmt hm,← hs,List.count_append,List.count_singleton] at this
  by_cases e:s=i+1
  ·rw [if_pos (by simp [e])] at this
   rw [if_pos e]
   omega
  ·rw [if_neg (by simpa using e)] at this
   rw [if_neg e]
   omega
 have mtop:mayP (csH csR s) (top:Int):=Zma (.inr (by
  have:=ownH (top-1)
  have ht:=I.ri.new.1
  rw [if_pos (show top=top-1+1 by omega)] at this
  omega))
 have ms:mayP (csH csR s) (s:Int):=Zma (by
  by_cases e:s=0
  ·exact .inl e
  ·right
   have:=ownH (s-1)
   rw [if_pos (show s=s-1+1 by omega)] at this
   omega)
 have mlr:mayP (csH csR s) (tl K m top s:Int)∧mayP (csH csR s) (tr K m top s:Int):=by
  unfold tl tr
  split
  ·exact ⟨ms,mtop⟩
  ·exact ⟨mtop,ms⟩
 have hl:∀x:Nat,mayP csP (x:Int)→x-1<csP.length∨x=0:=fun x hx=>by
  rcases hx.side with e | ⟨_,e,_⟩
  ·exact .inr e
  ·exact .inl (Zbd e)
 obtain ⟨csR',hR,lag'⟩:=lagH.inner hF (hl _ hml) (hl _ hmr) hI
 have hfH:∃u,(u=true↔Und (sdC (csH csR s) (tl K m top s)).key (sdC (csH csR s) (tr K m top s)).key (m:Int))∧fitP m (sdC (csH csR s) (tl K m top s)) (sdC (csH csR s) (tr K m top s)) u=true:=by
  rw [(lagH.sd _).1,(lagH.sd _).1]
  exact ⟨u,hu,hf⟩
 refine ⟨⟨h1,mlr.1,mlr.2,hfH,fun f=>full ((lagH.full room).1 f)⟩,csP',csR',hR,?_⟩
 have W':Wf csP' []:=Yfz W hF (by have:=b.len;omega) hml hmr hu hf hI
 rw [lagH.tk]
 exact ⟨rz',next fr csP' hF hI W',lag',Zns I.inv full hI⟩
end Go.Proofs.YtgfdgjkbcdmboaaGreatDoor
