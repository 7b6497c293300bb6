/- Drop and its Cost, of both stores. -/
import Derived.Test.YtgfdgjkbcdmboaaGreatDoorDs38
namespace Go.Proofs.YtgfdgjkbcdmboaaGreatDoor
variable {K al bs:Lq}
variable {T:Tre}
variable {b base g gs h k n q room top x:Nat}
variable {cs cs':Lz}
variable {er root:Int}
variable {fr fr2:List Nat}
variable {ss:List Sp}
variable {v vf vp:Value}
variable {w:World}
set_option maxHeartbeats 8000000
set_option maxRecDepth 20000
open Go.RowKit
theorem Yci {V:Tre} (h:IsT cs x V):(x=0∧(sdC cs x).kind=0)∨(x≠0∧((sdC cs x).kind=1∨(sdC cs x).kind=2)):=by
 cases V with
 | emp=>
  have e:x=0:=h;exact .inl ⟨e,by rw [e];rfl⟩
 | lf k b=>
  obtain ⟨h1,_,h3,_⟩:=h;exact .inr ⟨by omega,.inl (by rw [sdC,if_neg (by omega)];exact h3)⟩
 | nd d hl hr l r=>
  obtain ⟨h1,_,h3,_⟩:=h;exact .inr ⟨by omega,.inr (by rw [sdC,if_neg (by omega)];exact h3)⟩
section
variable {w0 w:World} {S S0:List Nat} {g gs q room:Nat} {cs:Lz} {fr:List Nat}
theorem Ztx (V:Hr w0 S0 w q room cs fr) (h:Int) (K:Lq) (e0:Int) (he:vAh true (cot cs h) (cat cs h) h=e0) (h0:e0≠0):Kc 13 #[.pointer (some ⟨q,0,none⟩),.int .i64 h,.agg (B K)] w fun e w'=>e=.returned (.tuple #[.int .i64 0,.int .i64 e0])∧Kb w w':=
 Ybp (by simpa using h0) (fun w' hb=>by
  have:=Zdm (V.grow hb) h;rwa [he] at this)
theorem Zty (V:Hr w0 S0 w q room cs fr) (h5:room≤5000) {h:Nat} {T:Tre} (r:Rt cs h T) {K:Lq} (hK:Key K):Kc 13 #[.pointer (some ⟨q,0,none⟩),.int .i64 (h:Int),.agg (B K)] w fun e w'=>e=.returned (.tuple #[.int .i64 (dcostN cs T K:Int),.int .i64 0])∧Kb w w':=by
 have W:=V.wf;have hy:=Zmg W r.tree K;have HPS:Hid ((Tryz.prog.info? 34).map (·.size)=some (B K).size):=by show _=_;rw [Zj,hK.1];exact Zi
 have HAH:Hid (Kr w 45 #[.pointer (some ⟨q,0,none⟩),.int .i64 (h:Int)] (.int .i64 0)):=fun w' hb=>by
  have:=Zdm (V.grow hb) (h:Int);rwa [r.ahand] at this
 have HWY:Hid (∀w',Kb w w'→Kc 46 #[.pointer (some ⟨q,0,none⟩),.int .i64 (h:Int),.agg (B K)] w' fun e w''=>∃a c,e=.returned (.tuple #[.slice a (T.hs K h).length c,.int .i64 (T.fin K h:Int)])∧w''.ownsRow w'.heap.size 3 1 (.slice a (T.hs K h).length c) (T.hs K h).length (nats (T.hs K h))∧Below w'.heap.size w' w''):=fun w' hb=>Ztl (V.grow hb) h T r.tree K hK r.dp
 have HMN:Hid (Kr w 47 #[.pointer (some ⟨q,0,none⟩),.int .i64 (T.fin K h:Int),.agg (B K)] (.bool (fnd (T.efin K) K).2)):=fun w' hb=>by
  have:=Zpj (V.grow hb) h5 (T.fin K h:Int) K hK;rwa [Zxr r.tree] at this
 unfold dcostN
 by_cases hq:hasK T.ents K=true
 ·rw [if_pos hq];rw [hq] at hy;rw [hy] at HMN;obtain ⟨b,hb⟩:=Zjn hy;have hfe:T.efin K=[(K,b)]:=Zgq W K T h r.tree (K,b) (Zce K T _ hb) rfl;have bo:=Zjw W K r.tree r.dp (fun e he=>by rw [hfe] at he;rw [List.mem_singleton.1 he]);have hlen:=Tre.hs_oth K T h;have hkd:∀m,m<(T.oth K).length→((T.oth K).getD m 0=0∧(sdC cs ((T.oth K).getD m 0)).kind=0)∨((T.oth K).getD m 0≠0∧((sdC cs ((T.oth K).getD m 0)).kind=1∨(sdC cs ((T.oth K).getD m 0)).kind=2)):=fun m hm=>by
   obtain ⟨U,hU,_⟩:=bo.side m hm;exact Yci hU
  have hle:shN cs K T≤(T.oth K).length:=Zkn _ _ _ _;refine Ybn (hsl:=T.hs K h) (wn:=(T.hs K h).length) (fi:=(T.fin K h:Int)) (N:=shN cs K T) (fun j k n=>j≤(T.oth K).length∧((∃nd,shk (fun h=>(sdC cs h).kind) (T.oth K) j nd=(shN cs K T,shF cs K T)∧n=0∧(nd=0∧k=0∨nd≠0∧k=1))∨(j<shN cs K T∧k=2∧n+j=shN cs K T))) (fun m=>((T.oth K).getD m 0:Int)) (fun m=>(sdC cs ((T.oth K).getD m 0)).kind) HPS rfl (by rw [hlen];exact bo.len) HAH HWY HMN ?_ ?_ ?_ ?_ ?_ ?_ ?_ ?_
  ·intro m w' hm hb;obtain ⟨x,a1,a2,a3,a4,a5,a6,a7,a8⟩:=Zqe W K T h 0 r.tree r.dp m hm;rw [Nat.zero_add] at a5 a6 a7;have hx:(T.hs K h).getD m 0=x:=by rw [List.getD_eq_getElem?_getD,a1];rfl
   have ho1:(if kb K m=1 then (ce cs (x-1)).l else (ce cs (x-1)).r)=(T.oth K).getD m 0:=by rw [List.getD_eq_getElem?_getD,a7];rfl
   have hsx:sdC cs x=ce cs (x-1):=if_neg (by omega);have:=Zlu (V.grow hb) K hK m a6 (x:Int);rw [Zy,hsx,ho1] at this;rw [hx];exact this
  ·intro m w' hm hb;have:=Zdx (V.grow hb) ((T.oth K).getD m 0:Int);rwa [Zy] at this
  ·exact ⟨by rw [hlen];omega,.inl ⟨0,by rw [hlen];rfl,rfl,.inl ⟨rfl,rfl⟩⟩⟩
  ·rintro m k n hm ⟨h1,h2⟩ k0 k2;have hk:=hkd m (by omega);refine ⟨by omega,?_⟩;rcases h2 with ⟨nd,s1,s2,s3⟩ | ⟨s1,s2,s3⟩
   ·have o0:(T.oth K).getD m 0=0:=by
     rcases hk with ⟨e,_⟩ | ⟨_,e⟩
     ·exact e
     ·have k0':(sdC cs ((T.oth K).getD m 0)).kind=0:=k0;omega
    rw [shk,if_pos o0] at s1;exact .inl ⟨nd,s1,s2,s3⟩
   ·exact absurd s2 k2
  ·rintro m n hm ⟨h1,h2⟩ k1;have hk:=hkd m (by omega);have k1':(sdC cs ((T.oth K).getD m 0)).kind=1:=k1;refine ⟨by omega,?_⟩;rcases h2 with ⟨nd,s1,s2,s3⟩ | ⟨s1,s2,s3⟩
   ·have o0:(T.oth K).getD m 0≠0:=by
     rcases hk with ⟨_,e⟩ | ⟨e,_⟩
     ·omega
     ·exact e
    have nd0:nd=0:=by
     rcases s3 with ⟨e,_⟩ | ⟨_,e⟩
     ·exact e
     ·omega
    rw [shk,if_neg o0,if_pos ⟨nd0,k1'⟩] at s1;exact .inl ⟨_,s1,s2,.inr ⟨o0,rfl⟩⟩
   ·omega
  ·rintro m k n hm ⟨h1,h2⟩ kA kB;have hk:=hkd m (by omega);have kA': ¬((sdC cs ((T.oth K).getD m 0)).kind=0∧k≠2):=kA;have kB': ¬(k=0∧(sdC cs ((T.oth K).getD m 0)).kind=1):=kB;refine ⟨by omega,.inr ?_⟩;rcases h2 with ⟨nd,s1,s2,s3⟩ | ⟨s1,s2,s3⟩
   ·have o0:(T.oth K).getD m 0≠0:=by
     rcases hk with ⟨_,e⟩ | ⟨e,_⟩
     ·refine absurd ⟨e,?_⟩ kA';rcases s3 with ⟨_,e⟩ | ⟨_,e⟩ <;> omega
     ·exact e
    have hn: ¬(nd=0∧(sdC cs ((T.oth K).getD m 0)).kind=1):=fun ⟨e1,e2⟩=>by
     rcases s3 with ⟨_,e⟩ | ⟨e,_⟩
     ·exact kB' ⟨e,e2⟩
     ·exact e e1
    rw [shk,if_neg o0,if_neg hn] at s1;injection s1 with e1 e2;refine ⟨?_,rfl,?_⟩ <;> omega
   ·refine ⟨?_,rfl,?_⟩ <;> omega
  ·rintro j k n ⟨h1,h2⟩;rw [hlen];rcases h2 with ⟨nd,s1,s2,s3⟩ | ⟨s1,s2,s3⟩ <;> omega
  ·rintro k n ⟨h1,h2⟩;rcases h2 with ⟨nd,s1,s2,s3⟩ | ⟨s1,s2,s3⟩
   ·rw [shk] at s1;injection s1 with e1 e2;omega
   ·omega
 ·have q2:hasK T.ents K=false:=by simpa using hq
  rw [if_neg hq];rw [q2] at hy;rw [hy] at HMN;exact Ybo HPS HAH HWY HMN
theorem Zyx (h:P7 w0 S w g gs q room cs fr) (h5:room≤5000) (hb:∀i,own cs [] i≤1000000) (x:Int) {K:Lq} (hK:Key K) (hL:Kq S w0 Laid):Kc 14 #[.pointer (some ⟨g,0,none⟩),.int .i64 x,.agg (B K)] w fun e w'=>∃y b er cs' fr',e=.returned (.tuple #[.int .i64 y,.bool b,.int .i64 er])∧Two7 w0 S g gs q room 15 #[.pointer (some ⟨q,0,none⟩),.int .i64 x,.agg (B K)] (.returned (.tuple #[.int .i64 y,.bool b,.int .i64 er])) cs' fr' w'∧∀i,own cs' [] i≤own cs [] i+1:=by
 have W:=h.wf;have hln:=h.inv.lenC
 by_cases he:vAh true (cot cs x) (cat cs x) x=0
 ·obtain ⟨n,T,rfl,r⟩:=Yhz W he
  by_cases hf:noc cs+258≤room
  ·have hy:=Zmg W r.tree K
   by_cases hq:hasK T.ents K=true
   ·rw [hq] at hy;obtain ⟨b,hb1⟩:=Zjn hy;have hb2:=Zgq W K T n r.tree (K,b) (Zce K T _ hb1) rfl;have h0:=Zyr r.tree hb2;have ok:DesOk cs T.ents K (shF cs K T) (shS cs K T):=Yeq W K r.tree r.dp hb2;have hct:∀i,cc cs i+258<1073741824:=fun i=>by
     have:=W.ccLe i 1000000 (hb i);omega
    refine (h.two (f2:=15) (args2:= #[.pointer (some ⟨q,0,none⟩),.int .i64 (n:Int),.agg (B K)]) (Q:=fun e cs' fr'=>∃top:Nat,e=.returned (.tuple #[.int .i64 (top:Int),.bool true,.int .i64 0])∧DropTo cs fr n K (shF cs K T) (shS cs K T) top cs' fr'∧DropOk cs T.ents K n top (shS cs K T) cs') (fun S' H hk=>(Ydb H n T r.tree K hK (hk _ hL) r.ahand r.root (r.own.resolve_left h0) (by omega) hf hy ok hct).mono fun e w' ⟨top,cs',fr',e1,p1,p2,k⟩=>⟨cs',fr',⟨top,e1,p1,p2⟩,k⟩) ?_).mono ?_
    ·rintro _ cs' fr' ⟨top,rfl,p1,_⟩ w' S' H _ hk;exact Zxa H h5 r hK hct hf (by omega) hy p1
    ·rintro e w' ⟨cs',fr',⟨top,rfl,_,p2⟩,t⟩;refine ⟨_,_,0,cs',fr',rfl,t,fun i=>?_⟩;have:=p2.own i;split at this <;> split at this <;> omega
   ·have q2:hasK T.ents K=false:=by simpa using hq
    rw [q2] at hy;exact (h.stay (fun S' H=>(Zyt H n T r.tree K hK r.ahand r.root hf hy).mono fun e w' ⟨e1,b⟩=>⟨e1,H.grow b⟩) (fun w' S' H m=>(Ztv H h5 r hK hf hy).mono fun e w'' ⟨e1,b⟩=>⟨e1,H.grow b⟩)).mono fun e w' ⟨e1,k⟩=>⟨_,_,_,cs,fr,e1,k,fun i=>Nat.le_add_right _ _⟩
  ·exact (h.stay (fun S' H=>(Zyw H n K he (by omega)).mono fun e w' ⟨e1,b⟩=>⟨e1,H.grow b⟩) (fun w' S' H m=>(Ztw H h5 n K he (by omega)).mono fun e w'' ⟨e1,b⟩=>⟨e1,H.grow b⟩)).mono fun e w' ⟨e1,k⟩=>⟨_,_,_,cs,fr,e1,k,fun i=>Nat.le_add_right _ _⟩
 ·exact (h.stay (fun S' H=>(Ydc H.vw x K _ rfl he).mono fun e w' ⟨e1,b⟩=>⟨e1,H.grow b⟩) (fun w' S' H m=>(Zxb H x K _ rfl he).mono fun e w'' ⟨e1,b⟩=>⟨e1,H.grow b⟩)).mono fun e w' ⟨e1,k⟩=>⟨_,_,_,cs,fr,e1,k,fun i=>Nat.le_add_right _ _⟩
theorem Zsk (h:P7 w0 S w g gs q room cs fr) (h5:room≤5000) (x:Int) {K:Lq} (hK:Key K):∃y er:Int,∀w',Kb w w'→(Kc 12 #[.pointer (some ⟨g,0,none⟩),.int .i64 x,.agg (B K)] w' fun e w''=>e=.returned (.tuple #[.int .i64 y,.int .i64 er])∧Below w'.heap.size w' w'')∧Kc 13 #[.pointer (some ⟨q,0,none⟩),.int .i64 x,.agg (B K)] w' fun e w''=>e=.returned (.tuple #[.int .i64 y,.int .i64 er])∧Below w'.heap.size w' w'':=by
 have W:=h.wf;obtain ⟨S1,H⟩:=h.hs;obtain ⟨S2,V⟩:=h.hr
 by_cases he:vAh true (cot cs x) (cat cs x) x=0
 ·obtain ⟨n,T,rfl,r⟩:=Yhz W he;exact ⟨_,_,fun w' hw=>⟨Zzb (H.grow hw) r hK,Zty (V.grow hw) h5 r hK⟩⟩
 ·exact ⟨_,_,fun w' hw=>⟨Zza (H.vw.grow hw) x K _ rfl he,Ztx (V.grow hw) x K _ rfl he⟩⟩
end
end Go.Proofs.YtgfdgjkbcdmboaaGreatDoor
namespace Go.Proofs.YtgfdgjkbcdmboaaGreatDoor
variable {K al bs:Lq}
variable {T:Tre}
variable {b base g gs h k n q room top x:Nat}
variable {cs cs':Lz}
variable {er root:Int}
variable {fr fr2:List Nat}
variable {ss:List Sp}
variable {v vf vp:Value}
variable {w:World}
set_option maxHeartbeats 8000000
set_option maxRecDepth 20000
open Go.RowKit
theorem Yfn (r:Rt cs h T) (t:IsT cs' h T) (o:h=0∨0<own cs' [] (h-1)):Rt cs' h T:=by
 refine ⟨t,fun hk=>?_,o⟩
 match T,r.tree,t with
 | .emp,_,t=>
  rw [show h=0 from t] at hk;exact absurd hk (show ¬zc.kind=2 by decide)
 | .lf _ _,_,t=>
  obtain ⟨t1,_,t3,_⟩:=t;rw [sdC,if_neg (by omega)] at hk;omega
 | .nd d a b L R,r',t=>
  obtain ⟨t1,_,t3,t4,_⟩:=t;obtain ⟨r1,_,r3,r4,_⟩:=r';have:=r.dp (by rw [sdC,if_neg (by omega)];exact r3);rw [sdC,if_neg (by omega),r4] at this;rw [sdC,if_neg (by omega),t4];exact this
structure HdX (cs:Lz) (x er:Int) (cs':Lz):Prop where
 few:∀j,own cs' [] j≤own cs [] j+1
 yes:∀i:Nat,x=(i:Int)+1→0<cc cs i→cc cs i<1073741824→er=0∧(∀j,own cs' [] j=own cs [] j+(if i=j then 1 else 0))∧∀h T,Rt cs h T→Rt cs' h T
structure DpX (cs:Lz) (x:Int) (cs':Lz):Prop where
 few:∀j,own cs' [] j≤own cs [] j
 yes:∀i:Nat,x=(i:Int)+1→0<own cs [] i→(∀j,own cs' [] j+(if i=j then 1 else 0)=own cs [] j)∧∀h T,Rt cs h T→(h=0∨0<own cs' [] (h-1))→Rt cs' h T
structure PtX (cs:Lz) (x y er:Int) (cs':Lz):Prop where
 few:∀j,own cs' [] j≤own cs [] j+1
 no:er≠0→cs'=cs
 yes:er=0→∃n m:Nat,x=(n:Int)∧y=(m:Int)∧(∀i,own cs' [] i+(if n=i+1 then 1 else 0)=own cs [] i+(if m=i+1 then 1 else 0))∧(∃T,Rt cs' m T∧∀U,Rt cs n U→T.ents.length≤U.ents.length+1)∧∀h T,Rt cs h T→(h=0∨0<own cs' [] (h-1))→Rt cs' h T
theorem Yei (x y:Int) (h:er≠0):PtX cs x y er cs:=⟨fun _=>Nat.le_add_right _ _,fun _=>rfl,fun e=>absurd e h⟩
theorem Ybv (r:Rt cs n T):PtX cs (n:Int) (n:Int) 0 cs:=⟨fun _=>Nat.le_add_right _ _,fun h=>absurd rfl h,fun _=>⟨n,n,rfl,rfl,fun _=>rfl,⟨T,r,fun U ru=>by rw [IsT.one r.tree ru.tree];omega⟩,fun _ _ r' _=>r'⟩⟩
theorem Yge {ss:List Nat} (r:Rt cs n T) (p:PutOk cs T.ents K bs n top ss cs'):PtX cs (n:Int) (top:Int) 0 cs':=by
 have hown:=p.own;refine ⟨fun i=>?_,fun h=>absurd rfl h,fun _=>⟨n,top,rfl,rfl,hown,?_,fun a U ra ho=>Yfn ra (p.keep a U ra.tree (ho.imp id fun o=>?_)) ho⟩⟩
 ·have:=hown i;split at this <;> split at this <;> omega
 ·obtain ⟨U,hU,hp⟩:=p.tree;refine ⟨U,⟨hU,p.dp,.inr ?_⟩,fun V rv=>by
   rw [hp.length_eq,List.length_cons,IsT.one rv.tree r.tree];have:=List.length_filter_le (fun e:Ent=>!(e.1 == K)) T.ents;omega⟩
  obtain ⟨t1,t2⟩:=p.new;have q:=hown (top-1);rw [if_pos (show top=top-1+1 by omega)] at q
  by_cases e:n=top-1+1
  ·rcases r.tree.occ with h0 | h0
   ·omega
   ·rw [show n-1=top-1 by omega] at h0;omega
  ·rw [if_neg e] at q;omega
 ·have:=p.wf.own (a-1);omega
section
variable {w0 w:World} {S:List Nat} {g gs q room:Nat} {cs:Lz} {fr:List Nat}
theorem Yjp (h:P7 w0 S w g gs q room cs fr) (x:Int):Kc 108 #[.pointer (some ⟨g,0,none⟩),.int .i64 x] w fun e w'=>∃er cs' fr',e=.returned (.int .i64 er)∧Two7 w0 S g gs q room 114 #[.pointer (some ⟨q,0,none⟩),.int .i64 x] (.returned (.int .i64 er)) cs' fr' w'∧HdX cs x er cs':=by
 have W:=h.wf
 by_cases hc:cot cs x=0
 ·refine (h.stay (fun S' H=>Zfv H x hc) (fun w' S' H _=>Zqf H x hc)).mono fun e w' ⟨e1,k⟩=>⟨7,cs,fr,e1,k,fun j=>Nat.le_add_right _ _,fun i hi hci _=>?_⟩
  rw [hi,cot,if_pos (by omega),show ((i:Int)+1-1).toNat=i by omega] at hc;omega
 ·obtain ⟨i,rfl,h2,h3,h4⟩:=Zfe (cs:=cs) (h:=x) (by omega);have hmo:=h.inv.mostC i
  by_cases hl:cc cs i=1073741824
  ·refine (h.stay (fun S' H=>Zoa H i hl) (fun w' S' H _=>Zob H i hl)).mono fun e w' ⟨e1,k⟩=>⟨4,cs,fr,e1,k,fun j=>Nat.le_add_right _ _,fun j hj _ hlt=>?_⟩
   obtain rfl:j=i:=by omega
   omega
  ·refine (h.two (f2:=114) (args2:= #[.pointer (some ⟨q,0,none⟩),.int .i64 ((i:Int)+1)]) (Q:=fun e cs' fr'=>e=.returned (.int .i64 0)∧cs'=moreC cs i∧fr'=fr) (fun S' H _=>(Zqc H i h2 (by omega)).mono fun e w' ⟨e1,k⟩=>⟨_,_,⟨e1,rfl,rfl⟩,k⟩) ?_).mono ?_
   ·rintro _ _ _ ⟨rfl,rfl,rfl⟩ w' S' H _ _;exact Zmf H i h2 (by omega)
   ·rintro e w' ⟨_,_,⟨rfl,rfl,rfl⟩,t⟩;refine ⟨0,_,_,rfl,t,fun j=>?_,fun j hj _ _=>?_⟩
    ·rw [Zma W h2];split <;> omega
    ·obtain rfl:j=i:=by omega
     refine ⟨rfl,Zma W h2,fun a T r=>Yfn r (IsT.keep (fun k hk=>⟨by rw [Zdo h2];omega,by rw [Zcl];exact Core.refl _⟩) r.tree) (r.own.imp id fun o=>?_)⟩;rw [Zma W h2];omega
theorem Yjy (h:P7 w0 S w g gs q room cs fr) (x:Int):Kc 55 #[.pointer (some ⟨g,0,none⟩),.int .i64 x] w fun e w'=>∃n er cs' fr',e=.returned (.tuple #[.int .i64 n,.int .i64 er])∧Two7 w0 S g gs q room 58 #[.pointer (some ⟨q,0,none⟩),.int .i64 x] (.returned (.tuple #[.int .i64 n,.int .i64 er])) cs' fr' w'∧DpX cs x cs':=by
 have W:=h.wf
 by_cases hm:cot cs x≤(cat cs x).ab
 ·refine (h.stay (fun S' H=>Zhw H x hm) (fun w' S' H _=>Zoc H x hm)).mono fun e w' ⟨e1,k⟩=>⟨0,7,cs,fr,e1,k,fun j=>Nat.le_refl _,fun i hi ho=>?_⟩
  rw [hi,cot,if_pos (by omega),show ((i:Int)+1-1).toNat=i by omega,show ((i:Int)+1)=((i+1:Nat):Int) by omega,Zy,sdC,if_neg (by omega),Nat.add_sub_cancel] at hm;unfold own at ho;rw [List.count_nil] at ho;omega
 ·obtain ⟨i,rfl,h2,h3,h4⟩:=Zfe (cs:=cs) (h:=x) (by omega);rw [h3,h4] at hm;have ho:0<own cs [] i:=by
   unfold own;rw [List.count_nil];omega
  refine (h.two (f2:=58) (args2:= #[.pointer (some ⟨q,0,none⟩),.int .i64 ((i:Int)+1)]) (Q:=fun e cs' fr'=>∃n,Run cs fr [i+1] cs' fr' n∧Step cs [i+1] cs' [] n∧e=.returned (.tuple #[.int .i64 (n:Int),.int .i64 0])) (fun S' H _=>(Zqd H i ho).mono fun e w' ⟨cs',fr',n,r,st,e1,k⟩=>⟨_,_,⟨n,r,st,e1⟩,k⟩) ?_).mono ?_
  ·rintro _ cs' fr' ⟨n,r,st,rfl⟩ w' S' H _ _;exact Zqg H i ho r
  ·rintro e w' ⟨cs',fr',⟨n,r,st,rfl⟩,t⟩;have hown:∀j,own cs' [] j+(if i=j then 1 else 0)=own cs [] j:=fun j=>by
    rw [st.own j];unfold own at ho ⊢;rw [List.count_nil] at ho ⊢;rw [List.count_singleton]
    by_cases e:i=j
    ·subst e;simp only [beq_self_eq_true,if_true];omega
    ·rw [if_neg e,if_neg (by simpa using e)];omega
   refine ⟨n,0,_,_,rfl,t,fun j=>?_,fun j hj _=>?_⟩
   ·have:=hown j;omega
   ·obtain rfl:j=i:=by omega
    refine ⟨hown,fun a T r k=>Yfn r (IsT.stay st.wf st.keep r.tree (k.imp id fun o=>?_)) k⟩;have:=st.wf.own (a-1);omega
theorem Yiz (h:P7 w0 S w g gs q room cs fr) (h5:room≤5000) (hb:∀i,own cs [] i≤1000000) (x:Int) {K:Lq} (hK:Key K) {v v2:Value} {bs:Lq} (hv:Kq S w0 fun w'=>Reads w' v bs) (hv2:Kq S w0 fun w'=>Reads w' v2 bs) (hL:Kq S w0 Laid):Kc 135 #[.pointer (some ⟨g,0,none⟩),.int .i64 x,.agg (B K),v] w fun e w'=>∃y er cs' fr',e=.returned (.tuple #[.int .i64 y,.int .i64 er])∧Two7 w0 S g gs q room 151 #[.pointer (some ⟨q,0,none⟩),.int .i64 x,.agg (B K),v2] (.returned (.tuple #[.int .i64 y,.int .i64 er])) cs' fr' w'∧PtX cs x y er cs':=by
 have W:=h.wf;have hln:=h.inv.lenC;have hvw:=h.kq hv
 by_cases he:vRf true (cot cs x) (cat cs x) x bs.length=0
 ·obtain ⟨hl,n,T,rfl,r⟩:=Yiy W he
  by_cases hf:noc cs+258≤room
  ·by_cases hsm:T.efin K=[(K,bs)]
   ·exact (h.stay (fun S' H=>(Ybt H n T r.tree K hK v bs hvw (r.refuse hl) r.root hf hsm).mono fun e w' ⟨e1,b⟩=>⟨e1,H.grow b⟩) (fun w' S' H m=>(Zwr H h5 r hK (hv2 _ m) hl hf hsm).mono fun e w'' ⟨e1,b⟩=>⟨e1,H.grow b⟩)).mono fun e w' ⟨e1,k⟩=>⟨_,_,cs,fr,e1,k,Ybv r⟩
   ·obtain ⟨ss,hss,hbo⟩:=Yew W K hK r.tree r.dp;have hct:∀i,cc cs i+257<1073741824:=fun i=>by
     have:=W.ccLe i 1000000 (hb i);omega
    refine (h.two (f2:=151) (args2:= #[.pointer (some ⟨q,0,none⟩),.int .i64 (n:Int),.agg (B K),v2]) (Q:=fun e cs' fr'=>∃top:Nat,e=.returned (.tuple #[.int .i64 (top:Int),.int .i64 0])∧PutTo cs fr n K bs ss top cs' fr'∧PutOk cs T.ents K bs n top ss cs') (fun S' H hk=>(Ygc H n T r.tree K hK v bs (hk _ hv) (hk _ hL) (r.refuse hl) hl r.root r.own hf hsm ss hss hbo hct).mono fun e w' ⟨top,cs',fr',e1,p1,p2,k⟩=>⟨cs',fr',⟨top,e1,p1,p2⟩,k⟩) ?_).mono ?_
    ·rintro _ cs' fr' ⟨top,rfl,p1,_⟩ w' S' H _ hk;exact Ybi H h5 r hK (hk _ hv2) hl hct hf hsm hss hbo p1
    ·rintro e w' ⟨cs',fr',⟨top,rfl,_,p2⟩,t⟩;exact ⟨_,0,cs',fr',rfl,t,Yge r p2⟩
  ·exact (h.stay (fun S' H=>by
    obtain ⟨a,c,e,_⟩:=hvw;rw [e];exact (Ybu H n K a bs.length c he (by omega)).mono fun e w' ⟨e1,b⟩=>⟨e1,H.grow b⟩) (fun w' S' H m=>(Zws H h5 n K v2 bs (hv2 _ m) he (by omega)).mono fun e w'' ⟨e1,b⟩=>⟨e1,H.grow b⟩)).mono fun e w' ⟨e1,k⟩=>⟨_,_,cs,fr,e1,k,Yei _ _ (by decide)⟩
 ·exact (h.stay (fun S' H=>by
   obtain ⟨a,c,e,_⟩:=hvw;rw [e];exact (Ygd H.vw x K a bs.length c _ rfl he).mono fun e w' ⟨e1,b⟩=>⟨e1,H.grow b⟩) (fun w' S' H m=>(Ybj H x K v2 bs (hv2 _ m) _ rfl he).mono fun e w'' ⟨e1,b⟩=>⟨e1,H.grow b⟩)).mono fun e w' ⟨e1,k⟩=>⟨_,_,cs,fr,e1,k,Yei _ _ he⟩
end
structure Ex (k:Nat) (cs:Lz) (root:Int) (al:Lq):Prop where
 own:∀i:Nat,own cs [] i=al.count ((i:Int)+1)+(if root=(i:Int)+1 then 1 else 0)
 root:∃n:Nat,root=(n:Int)∧∃T,Rt cs n T∧T.ents.length≤k
 al:∀x∈al,∃n:Nat,x=(n:Int)∧n≠0∧∃T,Rt cs n T∧T.ents.length≤k
theorem Ex.up (h:Ex k cs root al):Ex (k+1) cs root al:=⟨h.own,by
 obtain ⟨n,e,T,r,l⟩:=h.root;exact ⟨n,e,T,r,Nat.le_succ_of_le l⟩,fun x hx=>by
 obtain ⟨n,e,n0,T,r,l⟩:=h.al x hx;exact ⟨n,e,n0,T,r,Nat.le_succ_of_le l⟩⟩
theorem Yjx {y:Int} (h:Ex k cs root al) (p:PtX cs root y er cs') (e:er=0):Ex (k+1) cs' y al:=by
 obtain ⟨n,m,rfl,rfl,h1,h2,h3⟩:=p.yes e;have ho:∀i:Nat,own cs' [] i=al.count ((i:Int)+1)+(if (m:Int)=(i:Int)+1 then 1 else 0):=fun i=>by
  have q1:=h1 i;have q2:=h.own i;have q3:((n:Int)=(i:Int)+1)↔n=i+1:=by omega
  have q4:((m:Int)=(i:Int)+1)↔m=i+1:=by omega
  simp only [q3] at q2;simp only [q4];omega
 obtain ⟨T',r',l'⟩:=h2;refine ⟨ho,⟨m,rfl,T',r',?_⟩,fun x hx=>?_⟩
 ·obtain ⟨n',e',U,ru,lu⟩:=h.root;obtain rfl:n'=n:=by omega
  have:=l' U ru;omega
 obtain ⟨j,rfl,k0,T,r,l⟩:=h.al x hx;refine ⟨j,rfl,k0,T,h3 j T r (.inr ?_),Nat.le_succ_of_le l⟩;have:=ho (j-1);rw [show ((j-1:Nat):Int)+1=(j:Int) by omega] at this;have:=List.count_pos_iff.2 hx;omega
theorem Yhi (h:Ex k cs root al) (p:HdX cs root er cs') (h0:root≠0) (hc:∀i,cc cs i<1073741824):Ex k cs' root (al++[root]):=by
 obtain ⟨n,rfl,T,r,lr⟩:=h.root;have hn:n≠0:=by omega
 have hl:0<cc cs (n-1):=by
  rcases r.tree.occ with e | e
  ·omega
  ·exact e.2
 obtain ⟨_,h1,h2⟩:=p.yes (n-1) (by omega) hl (hc _);refine ⟨fun i=>?_,⟨n,rfl,T,h2 n T r,lr⟩,fun x hx=>?_⟩
 ·rw [h1 i,h.own i,List.count_append,List.count_singleton];have q:((n:Int) == (i:Int)+1)=decide (n-1=i):=by
   rw [Bool.eq_iff_iff];simp;omega
  rw [q];simp only [decide_eq_true_eq];omega
 ·rcases List.mem_append.1 hx with q | q
  ·obtain ⟨j,rfl,k0,T',r',l'⟩:=h.al x q;exact ⟨j,rfl,k0,T',h2 j T' r',l'⟩
  ·exact ⟨n,List.mem_singleton.1 q,hn,T,h2 n T r,lr⟩
theorem Yhj (h:Ex b cs root al) (hk:k<al.length) (p:DpX cs al[k] cs'):Ex b cs' root (al.take k++al.drop (k+1)):=by
 obtain ⟨n,hn,n0,T,r,_⟩:=h.al al[k] (List.getElem_mem hk);have hc:∀x:Int,(al.take k++al.drop (k+1)).count x+(if x=al[k] then 1 else 0)=al.count x:=fun x=>by
  have e:al=al.take k++(al[k]::al.drop (k+1)):=by rw [List.getElem_cons_drop,List.take_append_drop]
  have e2:=congrArg (List.count x) e;rw [List.count_append,List.count_cons] at e2;rw [List.count_append,e2]
  by_cases q:x=al[k]
  ·rw [if_pos q,if_pos (by rw [q];exact beq_self_eq_true _)];omega
  ·rw [if_neg q,if_neg (by simpa using fun z=>q z.symm)];omega
 have ho:0<own cs [] (n-1):=by
  rw [h.own (n-1),show ((n-1:Nat):Int)+1=al[k] by omega];have:=List.count_pos_iff.2 (List.getElem_mem hk);omega
 obtain ⟨h1,h2⟩:=p.yes (n-1) (by omega) ho;have hown:∀i:Nat,own cs' [] i=(al.take k++al.drop (k+1)).count ((i:Int)+1)+(if root=(i:Int)+1 then 1 else 0):=fun i=>by
  have q1:=h1 i;have q2:=h.own i;have q3:=hc ((i:Int)+1);have q4:((i:Int)+1=al[k])↔n-1=i:=by omega
  simp only [q4] at q3;omega
 obtain ⟨m,hm,U,ru,lu⟩:=h.root;refine ⟨hown,⟨m,hm,U,h2 m U ru ?_,lu⟩,fun x hx=>?_⟩
 ·by_cases m0:m=0
  ·exact .inl m0
  ·right;have:=hown (m-1);rw [if_pos (by omega)] at this;omega
 ·obtain ⟨j,rfl,j0,V,rv,lv⟩:=h.al x (by
   rcases List.mem_append.1 hx with q | q
   ·exact List.mem_of_mem_take q
   ·exact List.mem_of_mem_drop q)
  refine ⟨j,rfl,j0,V,h2 j V rv (.inr ?_),lv⟩;have:=hown (j-1);rw [show ((j-1:Nat):Int)+1=(j:Int) by omega] at this;have:=List.count_pos_iff.2 hx;omega
end Go.Proofs.YtgfdgjkbcdmboaaGreatDoor
namespace Go.Proofs.YtgfdgjkbcdmboaaGreatDoor
variable {K al bs:Lq}
variable {T:Tre}
variable {b base g gs h k n q room top x:Nat}
variable {cs cs':Lz}
variable {er root:Int}
variable {fr fr2:List Nat}
variable {ss:List Sp}
variable {v vf vp:Value}
variable {w:World}
set_option maxHeartbeats 8000000
set_option maxRecDepth 20000
open Go.RowKit
def Ns (w:World) (v:Value) (ss:Lq):Prop:=∃a c,v=.slice a ss.length c∧(0<ss.length→∃g o,a=some ⟨g,o,none⟩∧∀i,i<ss.length→w.cell? ⟨g,o+i,none⟩=some (.int .i64 (ss[i]?.getD 0)))
theorem Yjc {ss:List Nat} (h:w.ownsRow base 3 1 v ss.length (nats ss)):Ns w v (ss.map fun (s:Nat)=>(s:Int)):=by
 rcases h.2 with ⟨rfl,h0⟩ | ⟨g,cap,cur,rfl,_⟩
 ·exact ⟨none,0,by simp [h0],fun hp=>by simp at hp;omega⟩
 ·refine ⟨some ⟨g,0,none⟩,cap,by simp,fun hp=>⟨g,0,rfl,fun i hi=>?_⟩⟩;simp only [List.length_map] at hi;rw [Nat.zero_add,h.cellAt i (by omega)];simp [nats,hi]
theorem Znc (x y:Value) (xs ys:Lq) (w:World) (hx:Ns w x xs) (hy:Ns w y ys) (hl2:ys.length≤1048576):Kc 26 #[x,y] w fun e w'=>e=.returned (.bool (decide (xs=ys)))∧Kb w w':=by
 obtain ⟨xa,xc,rfl,hx⟩:=hx;obtain ⟨ya,yc,rfl,hy⟩:=hy
 by_cases hlen:xs.length=ys.length
 ·have HX:=Za hx;have HY:=Za hy;rw [hlen];rw [hlen] at HX;obtain ⟨n,hn⟩:∃n,n=ys.length:=⟨_,rfl⟩;rw [← hn] at HX HY hl2 ⊢;have HN:=Za hn;have HNX:Hid (xs.length=n):=by show _=_;omega
  clear hx hy hlen hn;go_enter Tryz.func26,Tryz.ntmps26
  go_wp2_with fail
  go_loopw [5] (fun i wr=>∃k:Nat,k≤n∧i=.int .i64 k∧Hid (xs.take k=ys.take k)∧Kb w wr) (fun i _=>n-(intOf i).toNat)
  case atStart=>exact ⟨0,by omega,rfl,by show _=_;simp,Below.refl _ _⟩
  case round=>
   obtain ⟨k,hk,rfl,hE,hbl⟩:=hrel;have hwk:wrap64 ((k:Int)+1)=((k+1:Nat):Int):=by rw [Go.IntWalk.wrap64_in _ (by omega)];rfl
   by_cases hlt:k<n
   ·have i1:(k:Int)<(n:Int):=by omega
    have i0:(0:Int)≤(k:Int):=by omega
    obtain ⟨gx,ox,rfl,cx⟩:=HX.out (by omega);obtain ⟨gy,oy,rfl,cy⟩:=HY.out (by omega);have c1:=Zz hbl (cx k hlt);have c2:=Zz hbl (cy k hlt);obtain ⟨zx,hzx⟩:∃z,z=xs[k]?.getD 0:=⟨_,rfl⟩;obtain ⟨zy,hzy⟩:∃z,z=ys[k]?.getD 0:=⟨_,rfl⟩;rw [← hzx] at c1;rw [← hzy] at c2;have HZX:=Za hzx;have HZY:=Za hzy;clear cx cy hzx hzy;have hxk:xs.take (k+1)=xs.take k++[zx]:=by rw [Ziq xs k (by have:=HNX.out;omega),HZX.out];rfl
    have hyk:ys.take (k+1)=ys.take k++[zy]:=by rw [Ziq ys k (by have:=HN.out;omega),HZY.out];rfl
    by_cases heq:zx=zy
    ·subst heq;have HT:Hid (xs.take (k+1)=ys.take (k+1)):=by show _=_;rw [hxk,hyk,hE.out]
     clear hxk hyk
     go_wp2_with fail
     go_quiet (fail)
     go_wp2
     exact ⟨⟨k+1,by omega,by go_num,HT,below_drewN hbl _⟩,by simp [intOf];omega⟩
    ·have HT:Hid (xs≠ys):=by
      show xs≠ys;intro e;apply heq;rw [HZX.out,HZY.out,e]
     have hne:(zx == zy)=false:=by simpa using heq
     clear hxk hyk heq
     go_wp2_with fail
     go_quiet (fail)
     go_wp2
     go_ret;exact ⟨by rw [decide_eq_false HT.out];rfl,below_drewN hbl _⟩
   ·obtain rfl:k=n:=by omega
    have HT:Hid (xs=ys):=by
     have:=hE.out;rw [List.take_of_length_le (by have:=HNX.out;omega),List.take_of_length_le (by have:=HN.out;omega)] at this;exact this
    go_wp2
    go_ret;exact ⟨by rw [decide_eq_true HT.out];rfl,hbl⟩
 ·have HT:Hid (xs≠ys):=fun e=>hlen (by rw [e])
  have hne:((xs.length:Int) == (ys.length:Int))=false:=by simp;omega
  clear hx hy;go_enter Tryz.func26,Tryz.ntmps26
  go_wp2
  go_ret;exact ⟨by rw [decide_eq_false HT.out];rfl,Below.refl _ _⟩
end Go.Proofs.YtgfdgjkbcdmboaaGreatDoor
namespace Go.Proofs.YtgfdgjkbcdmboaaGreatDoor
variable {K al bs:Lq}
variable {T:Tre}
variable {b base g gs h k n q room top x:Nat}
variable {cs cs':Lz}
variable {er root:Int}
variable {fr fr2:List Nat}
variable {ss:List Sp}
variable {v vf vp:Value}
variable {w:World}
set_option maxHeartbeats 8000000
set_option maxRecDepth 20000
open Go.RowKit
theorem Zly {ss:List Nat} (h:w.ownsRow base 3 1 v n (nats ss)) (hn:n=ss.length):Ns w v (ss.map fun (s:Nat)=>(s:Int)):=by
 subst hn;exact Yjc h
theorem Ykw {vp2 vf2:Value} (s:Stm w g gs vp vf room cs fr) (d:Rs w q vp2 vf2 room ss fr2) (R:Rel7 cs [] [] ss) (W:Wf cs []) (hL:Laid w) (h6:cs.length≤5000) (deep:Bool) (hd:deep=true→cs.length≤60):Kc 11 #[.pointer (some ⟨g,0,none⟩),.pointer (some ⟨q,0,none⟩),.bool deep] w fun e w'=>e=.returned (.bool true)∧Kb w w':=by
 have V:=Zkd s W;obtain ⟨n,hn⟩:∃n,n=(slotsOf (cs.map pl)).length:=⟨_,rfl⟩;obtain ⟨sl,hsl⟩:∃sl,sl=slotsOf (cs.map pl):=⟨_,rfl⟩;have HN:Hid (n=sl.length):=by rw [hn,hsl];exact rfl
 have HA1:Hid (∀w',Kb w w'→Kc 36 #[.pointer (some ⟨g,0,none⟩)] w' fun e w''=>∃a c,e=.returned (.slice a n c)∧w''.ownsRow w'.heap.size 3 1 (.slice a n c) n (nats sl)∧Below w'.heap.size w' w''):=fun w' hb=>by
  rw [hn,hsl];exact Ygy (s.grow hb)
 have HB1:Hid (∀w',Kb w w'→Kc 40 #[.pointer (some ⟨q,0,none⟩)] w' fun e w''=>∃a c,e=.returned (.slice a n c)∧w''.ownsRow w'.heap.size 3 1 (.slice a n c) n (nats sl)∧Below w'.heap.size w' w''):=fun w' hb=>by
  rw [hn,hsl];exact Yiw (d.grow hb) R W h6
 have HA2:Hid (Kr w 31 #[.pointer (some ⟨g,0,none⟩)] (.int .i64 (noc cs:Int))):=fun w' hb=>Zxo (s.grow hb)
 have HB2:Hid (Kr w 37 #[.pointer (some ⟨q,0,none⟩)] (.int .i64 (noc cs:Int))):=fun w' hb=>Yit (d.grow hb) R W h6
 have HA3:Hid (Kr w 38 #[.pointer (some ⟨g,0,none⟩)] (.int .i64 (room:Int))):=fun w' hb=>Zrg (s.grow hb)
 have HB3:Hid (∀w',Kb w w'→Kc 39 #[.pointer (some ⟨q,0,none⟩)] w' fun e w''=>e=.returned (.int .i64 (room:Int))∧w''=w'):=fun w' hb=>Yed (d.grow hb)
 have HLK:Hid (∀w' (h:Int),Kb w w'→Kc 41 #[.pointer (some ⟨g,0,none⟩),.pointer (some ⟨q,0,none⟩),.int .i64 h,.bool deep] w' fun e w''=>e=.returned (.bool true)∧Below w'.heap.size w' w''):=fun w' h hb=>Yjf (V.grow hb) (d.grow hb) R W (hL.grow hb) h6 h deep hd
 have hn6:n≤5000:=by
  rw [hn,Zht];have:=s.sl.inv.sum;rw [List.length_map] at this;omega
 have HSame:Hid (∀w' x y,Ns w' x (sl.map fun (s:Nat)=>(s:Int))→Ns w' y (sl.map fun (s:Nat)=>(s:Int))→Kc 26 #[x,y] w' fun e w''=>e=.returned (.bool true)∧Below w'.heap.size w' w''):=fun w' x y hx hy=>by
  have:=Znc x y _ _ w' hx hy (by rw [List.length_map,← HN.out];omega);rwa [decide_eq_true rfl] at this
 obtain ⟨pa,pc,hvp⟩:=Zo d.sps;obtain ⟨m,hm⟩:∃m,m=ss.length:=⟨_,rfl⟩;have hm6:m≤5000:=by rw [hm,R.len];exact h6
 rw [← hm] at hvp;have HC:Hid (∀w',Kb w w'→w'.cell? ⟨q,2,none⟩=some (.slice pa m pc)):=fun w' hb=>by
  rw [(d.grow hb).c2,hvp]
 generalize (noc cs:Int)=oc at HA2 HB2;generalize (room:Int)=rm at HA3 HB3;clear V s d R W hL h6 hd hn hsl hm hvp;have hB:Hid (Kb w w):=Below.refl _ _;generalize hx:Value.pointer (some ⟨g,0,none⟩)=x at HA1 HA2 HA3 HLK ⊢;clear hx;go_enter Tryz.func11,Tryz.ntmps11
 go_wp2_with (first
  |(go_at_call 36;refine (HA1.out _ hB.out).mono ?_;first | (have HQ:=HO1;rintro e w2 ⟨a2,c2,rfl,o2,b⟩;have HO2:=Za o2;have HOA:=Za (Zn HO1.out b);have HLT:=Za HO1.out.lt;have HL2:=Za o2.lt;have hC:=Za (Below.refl w2.heap.size w2);replace hB:=Za (Zb hB.out b);clear b o2 HQ) | (have HSZ:=Za hB.out.size;rintro e w1 ⟨a1,c1,rfl,o1,b⟩;have HO1:=Za o1;replace hB:=Za (Zb hB.out b);clear b o1))
  |(go_at_call 31;refine (HA2.out _ hB.out).mono ?_;rintro e w' ⟨rfl,b⟩;replace hB:=Za (Zb hB.out b);replace hC:=Za (Zb hC.out b);clear b)
  |(go_at_call 37;refine (HB2.out _ hB.out).mono ?_;rintro e w' ⟨rfl,b⟩;replace hB:=Za (Zb hB.out b);replace hC:=Za (Zb hC.out b);clear b)
  |(go_at_call 38;refine (HA3.out _ hB.out).mono ?_;rintro e w' ⟨rfl,b⟩;replace hB:=Za (Zb hB.out b);replace hC:=Za (Zb hC.out b);clear b)
  |(go_at_call 39;refine (HB3.out _ hB.out).mono ?_;rintro e w' ⟨rfl,hx⟩;rw [hx];clear hx w')
  |(go_at_call 40;refine (HB1.out _ hB.out).mono ?_;rintro e w' ⟨a3,c3,rfl,o3,b⟩;have HO3:=Za (Zly o3 HN.out);replace hB:=Za (Zb hB.out b);replace hC:=Za (Zb hC.out b);clear b o3)
  |(go_at_call 26;refine (HSame.out _ _ _ (Zly (Zn HOA.out hC.out) HN.out) HO3.out).mono ?_;rintro e w' ⟨rfl,b⟩;replace hB:=Za (Zb hB.out b);replace hC:=Za (Zb hC.out b);clear b HO3))
 have HOl:Hid (∃ys,World.ownsRow _ w.heap.size 3 1 (.slice a1 n c1) n ys):=⟨_,Zn HOA.out hC.out⟩;have HOm:=Za (Zn HO2.out hC.out);clear HOA HO1 HO2 hC
 go_loopw [9] (fun i wr=>∃k:Nat,k≤n∧i=.int .i64 k∧Hid (∃ys,wr.ownsRow w.heap.size 3 1 (.slice a1 n c1) n ys)∧Hid (wr.ownsRow w1.heap.size 3 1 (.slice a2 n c2) n (nats sl))∧Hid (Kb w wr)) (fun i _=>n-(intOf i).toNat)
 case atStart=>exact ⟨0,by omega,rfl,HOl,HOm,hB⟩
 case round=>
  clear HOl HOm hB;obtain ⟨k,hk,rfl,HOl,HOm,hbl⟩:=hrel;have hwk:wrap64 ((k:Int)+1)=((k+1:Nat):Int):=by rw [Go.IntWalk.wrap64_in _ (by omega)];rfl
  by_cases hlt:k<n
  ·have i1:(k:Int)<(n:Int):=by omega
   have i0:(0:Int)≤(k:Int):=by omega
   obtain ⟨ys,ho⟩:=HOl.out;rcases ho.2 with ⟨_,h0⟩ | ⟨gl,cap,cur,hv,_⟩
   ·omega
   ·simp only [Value.slice.injEq,true_and] at hv;obtain ⟨rfl,rfl⟩:=hv;obtain ⟨z,cz⟩:∃z,wr.cell? ⟨gl,k,none⟩=some z:=by
     rw [ho.cellAt k (by omega),List.getElem?_eq_getElem (by rw [ho.1];omega)];exact ⟨_,rfl⟩
    have fz:=ho.frozenAt k;have HO:=Za ho;clear ho;go_wp2
    obtain ⟨g1,g2⟩:=HLT.out gl rfl;refine ⟨⟨k+1,by omega,by go_num,⟨_,(HO.out.stored k (.int .i64 (-7))).1⟩,?_,Zr k (.int .i64 (-7)) hbl.out g1⟩,by simp [intOf];omega⟩;refine HOm.out.kept (Zaj wr gl k (.int .i64 (-7))) ?_;cases hq:(Value.slice a2 n c2).ownBlock with
    | none=>exact .inl rfl
    | some q=>
     right;have:=(HOm.out.lt q hq).1;intro e;injection e with e;omega
  ·obtain rfl:k=n:=by omega
   clear HOl
   go_wp2_with (first
    |(go_at_call 40;refine (HB1.out _ hbl.out).mono ?_;rintro e w' ⟨a3,c3,rfl,o3,b⟩;have HO3:=Za (Zly o3 HN.out);replace hbl:=Za (Zb hbl.out b);replace HOm:=Za (Zn HOm.out b);clear b o3)
    |(go_at_call 26;refine (HSame.out _ _ _ (Zly HOm.out HN.out) HO3.out).mono ?_;rintro e w' ⟨rfl,b⟩;replace hbl:=Za (Zb hbl.out b);clear b HO3 HOm))
   go_loopw [10] (fun i wr=>∃j:Nat,j≤m+3∧i=.int .i64 ((j:Int)-1)∧Hid (Kb w wr)) (fun i _=>m+5-(intOf i+1).toNat)
   case atStart=>exact ⟨0,by omega,rfl,hbl⟩
   case round=>
    clear hbl;obtain ⟨j,hj,rfl,hbl⟩:=hrel;have c2:=HC.out _ hbl.out
    by_cases hlj:j<m+3
    ·have i2:(j:Int)-1≤(m:Int)+1:=by omega
     go_wp2_with (go_at_call 41;refine (HLK.out _ _ hbl.out).mono ?_;rintro e w' ⟨rfl,b⟩;replace hbl:=Za (Zb hbl.out b);clear b)
     exact ⟨⟨j+1,by omega,by go_num,hbl⟩,by simp [intOf];omega⟩
    ·obtain rfl:j=m+3:=by omega
     have i2: ¬((m+3:Nat):Int)-1≤(m:Int)+1:=by omega
     go_wp2_with fail
     go_ret;exact ⟨rfl,hbl.out⟩
end Go.Proofs.YtgfdgjkbcdmboaaGreatDoor
