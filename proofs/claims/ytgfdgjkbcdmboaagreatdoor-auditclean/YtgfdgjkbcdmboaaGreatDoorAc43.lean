/- Hold, Drop and Put of both stores, told with what callers hold; a scene whose roots are just what callers hold. -/
import Derived.Test.YtgfdgjkbcdmboaaGreatDoorAc42
namespace Go.Proofs.YtgfdgjkbcdmboaaGreatDoor
set_option maxRecDepth 20000
open Go.RowKit
theorem Yhg {cs cs':List (Nat×Ce)} {h:Nat} {T:Tre} (r:Rt cs h T) (t:IsT cs' h T) (o:h=0∨0<own cs' [] (h-1)):Rt cs' h T:=by
 refine ⟨t,fun hk=>?_,o⟩
 match T,r.tree,t with
 | .emp,_,t=>
  rw [show h=0 from t] at hk
  exact absurd hk (show ¬zc.kind=2 by decide)
 | .lf _ _,_,t=>
  obtain ⟨t1,_,t3,_⟩:=t
  rw [sdC,if_neg (by omega)] at hk
  omega
 | .nd d a b L R,r',t=>
  obtain ⟨t1,_,t3,t4,_⟩:=t
  obtain ⟨r1,_,r3,r4,_⟩:=r'
  have:=r.dp (by rw [sdC,if_neg (by omega)];exact r3)
  rw [sdC,if_neg (by omega),r4] at this
  rw [sdC,if_neg (by omega),t4]
  exact this
structure HdX (cs:List (Nat×Ce)) (x er:Int) (cs':List (Nat×Ce)):Prop where
 few:∀j,own cs' [] j≤own cs [] j+1
 yes:∀i:Nat,x=(i:Int)+1→0<cc cs i→cc cs i<1073741824→er=0∧(∀j,own cs' [] j=own cs [] j+(if i=j then 1 else 0))∧∀h T,Rt cs h T→Rt cs' h T
structure DpX (cs:List (Nat×Ce)) (x:Int) (cs':List (Nat×Ce)):Prop where
 few:∀j,own cs' [] j≤own cs [] j
 yes:∀i:Nat,x=(i:Int)+1→0<own cs [] i→(∀j,own cs' [] j+(if i=j then 1 else 0)=own cs [] j)∧∀h T,Rt cs h T→(h=0∨0<own cs' [] (h-1))→Rt cs' h T
structure PtX (cs:List (Nat×Ce)) (x y er:Int) (cs':List (Nat×Ce)):Prop where
 few:∀j,own cs' [] j≤own cs [] j+1
 no:er≠0→cs'=cs
 yes:er=0→∃n m:Nat,x=(n:Int)∧y=(m:Int)∧(∀i,own cs' [] i+(if n=i+1 then 1 else 0)=own cs [] i+(if m=i+1 then 1 else 0))∧(∃T,Rt cs' m T∧∀U,Rt cs n U→T.ents.length≤U.ents.length+1)∧∀h T,Rt cs h T→(h=0∨0<own cs' [] (h-1))→Rt cs' h T
theorem Yfs {cs:List (Nat×Ce)} {er:Int} (x y:Int) (h:er≠0):PtX cs x y er cs:=⟨fun _=>Nat.le_add_right _ _,fun _=>rfl,fun e=>absurd e h⟩
theorem Ycw {cs:List (Nat×Ce)} {n:Nat} {T:Tre} (r:Rt cs n T):PtX cs (n:Int) (n:Int) 0 cs:=⟨fun _=>Nat.le_add_right _ _,fun h=>absurd rfl h,fun _=>⟨n,n,rfl,rfl,fun _=>rfl,⟨T,r,fun U ru=>by rw [IsT.one r.tree ru.tree];omega⟩,fun _ _ r' _=>r'⟩⟩
theorem Yhw {cs cs':List (Nat×Ce)} {n top:Nat} {T:Tre} {K bs:List Int} {ss:List Nat} (r:Rt cs n T) (p:PutOk cs T.ents K bs n top ss cs'):PtX cs (n:Int) (top:Int) 0 cs':=by
 have hown:=p.own
 refine ⟨fun i=>?_,fun h=>absurd rfl h,fun _=>⟨n,top,rfl,rfl,hown,?_,fun a U ra ho=>Yhg ra (p.keep a U ra.tree (ho.imp id fun o=>?_)) ho⟩⟩
 ·have:=hown i
  split at this <;> split at this <;> omega
 ·obtain ⟨U,hU,hp⟩:=p.tree
  refine ⟨U,⟨hU,p.dp,.inr ?_⟩,fun V rv=>by
   rw [hp.length_eq,List.length_cons,IsT.one rv.tree r.tree]
   have:=List.length_filter_le (fun e:Ent=>!(e.1 == K)) T.ents
   omega⟩
  obtain ⟨t1,t2⟩:=p.new
  have q:=hown (top-1)
  rw [if_pos (show top=top-1+1 by omega)] at q
  by_cases e:n=top-1+1
  ·rcases r.tree.occ with h0 | h0
   ·omega
   ·rw [show n-1=top-1 by omega] at h0
    omega
  ·rw [if_neg e] at q
   omega
 ·have:=p.wf.own (a-1)
  omega
section
variable {w0 w:World} {S:List Nat} {g gs q room:Nat} {cs:List (Nat×Ce)} {fr:List Nat}
theorem Yll (h:P7 w0 S w g gs q room cs fr) (x:Int):Calls Tryz.prog 108 #[.pointer (some ⟨g,0,none⟩),.int .i64 x] w fun e w'=>∃er cs' fr',e=.returned (.int .i64 er)∧Two7 w0 S g gs q room 114 #[.pointer (some ⟨q,0,none⟩),.int .i64 x] (.returned (.int .i64 er)) cs' fr' w'∧HdX cs x er cs':=by
 have W:=h.wf
 by_cases hc:cot cs x=0
 ·refine (h.stay (fun S' H=>Zjj H x hc) (fun w' S' H _=>Zpy H x hc)).mono fun e w' ⟨e1,k⟩=>⟨7,cs,fr,e1,k,fun j=>Nat.le_add_right _ _,fun i hi hci _=>?_⟩
  rw [hi,cot,if_pos (by omega),show ((i:Int)+1-1).toNat=i by omega] at hc
  omega
 ·obtain ⟨i,rfl,h2,h3,h4⟩:=Zfh (cs:=cs) (h:=x) (by omega)
  have hmo:=h.inv.mostC i
  by_cases hl:cc cs i=1073741824
  ·refine (h.stay (fun S' H=>Znv H i hl) (fun w' S' H _=>Znw H i hl)).mono fun e w' ⟨e1,k⟩=>⟨4,cs,fr,e1,k,fun j=>Nat.le_add_right _ _,fun j hj _ hlt=>?_⟩
   obtain rfl:j=i:=by omega
   omega
  ·refine (h.two (f2:=114) (args2:= #[.pointer (some ⟨q,0,none⟩),.int .i64 ((i:Int)+1)]) (Q:=fun e cs' fr'=>e=.returned (.int .i64 0)∧cs'=moreC cs i∧fr'=fr) (fun S' H _=>(Zyu H i h2 (by omega)).mono fun e w' ⟨e1,k⟩=>⟨_,_,⟨e1,rfl,rfl⟩,k⟩) ?_).mono ?_
   ·rintro _ _ _ ⟨rfl,rfl,rfl⟩ w' S' H _ _
    exact Zyz H i h2 (by omega)
   ·rintro e w' ⟨_,_,⟨rfl,rfl,rfl⟩,t⟩
    refine ⟨0,_,_,rfl,t,fun j=>?_,fun j hj _ _=>?_⟩
    ·rw [Zly W h2]
     split <;> omega
    ·obtain rfl:j=i:=by omega
     refine ⟨rfl,Zly W h2,fun a T r=>Yhg r (IsT.keep (fun k hk=>⟨by rw [Zfa h2];omega,by rw [Zda];exact Core.refl _⟩) r.tree) (r.own.imp id fun o=>?_)⟩
     rw [Zly W h2]
     omega
theorem Ylu (h:P7 w0 S w g gs q room cs fr) (x:Int):Calls Tryz.prog 55 #[.pointer (some ⟨g,0,none⟩),.int .i64 x] w fun e w'=>∃n er cs' fr',e=.returned (.tuple #[.int .i64 n,.int .i64 er])∧Two7 w0 S g gs q room 58 #[.pointer (some ⟨q,0,none⟩),.int .i64 x] (.returned (.tuple #[.int .i64 n,.int .i64 er])) cs' fr' w'∧DpX cs x cs':=by
 have W:=h.wf
 by_cases hm:cot cs x≤(cat cs x).ab
 ·refine (h.stay (fun S' H=>Zhl H x hm) (fun w' S' H _=>Znx H x hm)).mono fun e w' ⟨e1,k⟩=>⟨0,7,cs,fr,e1,k,fun j=>Nat.le_refl _,fun i hi ho=>?_⟩
  rw [hi,cot,if_pos (by omega),show ((i:Int)+1-1).toNat=i by omega,show ((i:Int)+1)=((i+1:Nat):Int) by omega,Zaj,sdC,if_neg (by omega),Nat.add_sub_cancel] at hm
  unfold own at ho
  rw [List.count_nil] at ho
  omega
 ·obtain ⟨i,rfl,h2,h3,h4⟩:=Zfh (cs:=cs) (h:=x) (by omega)
  rw [h3,h4] at hm
  have ho:0<own cs [] i:=by
   unfold own
   rw [List.count_nil]
   omega
  refine (h.two (f2:=58) (args2:= #[.pointer (some ⟨q,0,none⟩),.int .i64 ((i:Int)+1)]) (Q:=fun e cs' fr'=>∃n,Run cs fr [i+1] cs' fr' n∧Step cs [i+1] cs' [] n∧e=.returned (.tuple #[.int .i64 (n:Int),.int .i64 0])) (fun S' H _=>(Zyw H i ho).mono fun e w' ⟨cs',fr',n,r,st,e1,k⟩=>⟨_,_,⟨n,r,st,e1⟩,k⟩) ?_).mono ?_
  ·rintro _ cs' fr' ⟨n,r,st,rfl⟩ w' S' H _ _
   exact Zza H i ho r
  ·rintro e w' ⟨cs',fr',⟨n,r,st,rfl⟩,t⟩
   have hown:∀j,own cs' [] j+(if i=j then 1 else 0)=own cs [] j:=fun j=>by
    rw [st.own j]
    unfold own at ho ⊢
    rw [List.count_nil] at ho ⊢
    rw [List.count_singleton]
    by_cases e:i=j
    ·subst e
     simp only [beq_self_eq_true,if_true]
     omega
    ·rw [if_neg e,if_neg (by simpa using e)]
     omega
   refine ⟨n,0,_,_,rfl,t,fun j=>?_,fun j hj _=>?_⟩
   ·have:=hown j
    omega
   ·obtain rfl:j=i:=by omega
    refine ⟨hown,fun a T r k=>Yhg r (IsT.stay st.wf st.keep r.tree (k.imp id fun o=>?_)) k⟩
    have:=st.wf.own (a-1)
    omega
theorem Yks (h:P7 w0 S w g gs q room cs fr) (h5:room≤5000) (hb:∀i,own cs [] i≤1000000) (x:Int) {K:List Int} (hK:Key K) {v v2:Value} {bs:List Int} (hv:Kq S w0 fun w'=>Reads w' v bs) (hv2:Kq S w0 fun w'=>Reads w' v2 bs) (hL:Kq S w0 Laid):Calls Tryz.prog 135 #[.pointer (some ⟨g,0,none⟩),.int .i64 x,.agg (B K),v] w fun e w'=>∃y er cs' fr',e=.returned (.tuple #[.int .i64 y,.int .i64 er])∧Two7 w0 S g gs q room 151 #[.pointer (some ⟨q,0,none⟩),.int .i64 x,.agg (B K),v2] (.returned (.tuple #[.int .i64 y,.int .i64 er])) cs' fr' w'∧PtX cs x y er cs':=by
 have W:=h.wf
 have hln:=h.inv.lenC
 have hvw:=h.kq hv
 by_cases he:vRf true (cot cs x) (cat cs x) x bs.length=0
 ·obtain ⟨hl,n,T,rfl,r⟩:=Ykq W he
  by_cases hf:noc cs+258≤room
  ·by_cases hsm:T.efin K=[(K,bs)]
   ·exact (h.stay (fun S' H=>(Zrr H n T r.tree K hK v bs hvw (r.refuse hl) r.root hf hsm).mono fun e w' ⟨e1,b⟩=>⟨e1,H.grow b⟩) (fun w' S' H m=>(Zxd H h5 r hK (hv2 _ m) hl hf hsm).mono fun e w'' ⟨e1,b⟩=>⟨e1,H.grow b⟩)).mono fun e w' ⟨e1,k⟩=>⟨_,_,cs,fr,e1,k,Ycw r⟩
   ·obtain ⟨ss,hss,hbo⟩:=Zsu W K hK r.tree r.dp
    have hct:∀i,cc cs i+257<1073741824:=fun i=>by
     have:=W.ccLe i 1000000 (hb i)
     omega
    refine (h.two (f2:=151) (args2:= #[.pointer (some ⟨q,0,none⟩),.int .i64 (n:Int),.agg (B K),v2]) (Q:=fun e cs' fr'=>∃top:Nat,e=.returned (.tuple #[.int .i64 (top:Int),.int .i64 0])∧PutTo cs fr n K bs ss top cs' fr'∧PutOk cs T.ents K bs n top ss cs') (fun S' H hk=>(Zxt H n T r.tree K hK v bs (hk _ hv) (hk _ hL) (r.refuse hl) hl r.root r.own hf hsm ss hss hbo hct).mono fun e w' ⟨top,cs',fr',e1,p1,p2,k⟩=>⟨cs',fr',⟨top,e1,p1,p2⟩,k⟩) ?_).mono ?_
    ·rintro _ cs' fr' ⟨top,rfl,p1,_⟩ w' S' H _ hk
     exact Yci H h5 r hK (hk _ hv2) hl hct hf hsm hss hbo p1
    ·rintro e w' ⟨cs',fr',⟨top,rfl,_,p2⟩,t⟩
     exact ⟨_,0,cs',fr',rfl,t,Yhw r p2⟩
  ·exact (h.stay (fun S' H=>by
    obtain ⟨a,c,e,_⟩:=hvw
    rw [e]
    exact (Ycv H n K a bs.length c he (by omega)).mono fun e w' ⟨e1,b⟩=>⟨e1,H.grow b⟩) (fun w' S' H m=>(Zxe H h5 n K v2 bs (hv2 _ m) he (by omega)).mono fun e w'' ⟨e1,b⟩=>⟨e1,H.grow b⟩)).mono fun e w' ⟨e1,k⟩=>⟨_,_,cs,fr,e1,k,Yfs _ _ (by decide)⟩
 ·exact (h.stay (fun S' H=>by
   obtain ⟨a,c,e,_⟩:=hvw
   rw [e]
   exact (Yhv H.vw x K a bs.length c _ rfl he).mono fun e w' ⟨e1,b⟩=>⟨e1,H.grow b⟩) (fun w' S' H m=>(Ycj H x K v2 bs (hv2 _ m) _ rfl he).mono fun e w'' ⟨e1,b⟩=>⟨e1,H.grow b⟩)).mono fun e w' ⟨e1,k⟩=>⟨_,_,cs,fr,e1,k,Yfs _ _ he⟩
end
structure Ex (k:Nat) (cs:List (Nat×Ce)) (root:Int) (al:List Int):Prop where
 own:∀i:Nat,own cs [] i=al.count ((i:Int)+1)+(if root=(i:Int)+1 then 1 else 0)
 root:∃n:Nat,root=(n:Int)∧∃T,Rt cs n T∧T.ents.length≤k
 al:∀x∈al,∃n:Nat,x=(n:Int)∧n≠0∧∃T,Rt cs n T∧T.ents.length≤k
theorem Ex.up {k:Nat} {cs:List (Nat×Ce)} {root:Int} {al:List Int} (h:Ex k cs root al):Ex (k+1) cs root al:=⟨h.own,by
 obtain ⟨n,e,T,r,l⟩:=h.root
 exact ⟨n,e,T,r,Nat.le_succ_of_le l⟩,fun x hx=>by
 obtain ⟨n,e,n0,T,r,l⟩:=h.al x hx
 exact ⟨n,e,n0,T,r,Nat.le_succ_of_le l⟩⟩
theorem Ylt:Ex 0 [] 0 []:=⟨fun i=>by rw [if_neg (by omega)];simp [Go.Proofs.YtgfdgjkbcdmboaaGreatDoor.own,cc],⟨0,rfl,.emp,Rt.zero [],Nat.le_refl _⟩,fun x hx=>by cases hx⟩
theorem Yls {k:Nat} {cs cs':List (Nat×Ce)} {root y er:Int} {al:List Int} (h:Ex k cs root al) (p:PtX cs root y er cs') (e:er=0):Ex (k+1) cs' y al:=by
 obtain ⟨n,m,rfl,rfl,h1,h2,h3⟩:=p.yes e
 have ho:∀i:Nat,own cs' [] i=al.count ((i:Int)+1)+(if (m:Int)=(i:Int)+1 then 1 else 0):=fun i=>by
  have q1:=h1 i
  have q2:=h.own i
  have q3:((n:Int)=(i:Int)+1)↔n=i+1:=by omega
  have q4:((m:Int)=(i:Int)+1)↔m=i+1:=by omega
  simp only [q3] at q2
  simp only [q4]
  omega
 obtain ⟨T',r',l'⟩:=h2
 refine ⟨ho,⟨m,rfl,T',r',?_⟩,fun x hx=>?_⟩
 ·obtain ⟨n',e',U,ru,lu⟩:=h.root
  obtain rfl:n'=n:=by omega
  have:=l' U ru
  omega
 obtain ⟨j,rfl,k0,T,r,l⟩:=h.al x hx
 refine ⟨j,rfl,k0,T,h3 j T r (.inr ?_),Nat.le_succ_of_le l⟩
 have:=ho (j-1)
 rw [show ((j-1:Nat):Int)+1=(j:Int) by omega] at this
 have:=List.count_pos_iff.2 hx
 omega
theorem Yje {k:Nat} {cs cs':List (Nat×Ce)} {root er:Int} {al:List Int} (h:Ex k cs root al) (p:HdX cs root er cs') (h0:root≠0) (hc:∀i,cc cs i<1073741824):Ex k cs' root (al++[root]):=by
 obtain ⟨n,rfl,T,r,lr⟩:=h.root
 have hn:n≠0:=by omega
 have hl:0<cc cs (n-1):=by
  rcases r.tree.occ with e | e
  ·omega
  ·exact e.2
 obtain ⟨_,h1,h2⟩:=p.yes (n-1) (by omega) hl (hc _)
 refine ⟨fun i=>?_,⟨n,rfl,T,h2 n T r,lr⟩,fun x hx=>?_⟩
 ·rw [h1 i,h.own i,List.count_append,List.count_singleton]
  have q:((n:Int) == (i:Int)+1)=decide (n-1=i):=by
   rw [Bool.eq_iff_iff]
   simp
   omega
  rw [q]
  simp only [decide_eq_true_eq]
  omega
 ·rcases List.mem_append.1 hx with q | q
  ·obtain ⟨j,rfl,k0,T',r',l'⟩:=h.al x q
   exact ⟨j,rfl,k0,T',h2 j T' r',l'⟩
  ·exact ⟨n,List.mem_singleton.1 q,hn,T,h2 n T r,lr⟩
theorem Yjf {b:Nat} {cs cs':List (Nat×Ce)} {root:Int} {al:List Int} {k:Nat} (h:Ex b cs root al) (hk:k<al.length) (p:DpX cs al[k] cs'):Ex b cs' root (al.take k++al.drop (k+1)):=by
 obtain ⟨n,hn,n0,T,r,_⟩:=h.al al[k] (List.getElem_mem hk)
 have hc:∀x:Int,(al.take k++al.drop (k+1)).count x+(if x=al[k] then 1 else 0)=al.count x:=fun x=>by
  have e:al=al.take k++(al[k]::al.drop (k+1)):=by rw [List.getElem_cons_drop,List.take_append_drop]
  have e2:=congrArg (List.count x) e
  rw [List.count_append,List.count_cons] at e2
  rw [List.count_append,e2]
  by_cases q:x=al[k]
  ·rw [if_pos q,if_pos (by rw [q];exact beq_self_eq_true _)]
   omega
  ·rw [if_neg q,if_neg (by simpa using fun z=>q z.symm)]
   omega
 have ho:0<own cs [] (n-1):=by
  rw [h.own (n-1),show ((n-1:Nat):Int)+1=al[k] by omega]
  have:=List.count_pos_iff.2 (List.getElem_mem hk)
  omega
 obtain ⟨h1,h2⟩:=p.yes (n-1) (by omega) ho
 have hown:∀i:Nat,own cs' [] i=(al.take k++al.drop (k+1)).count ((i:Int)+1)+(if root=(i:Int)+1 then 1 else 0):=fun i=>by
  have q1:=h1 i
  have q2:=h.own i
  have q3:=hc ((i:Int)+1)
  have q4:((i:Int)+1=al[k])↔n-1=i:=by omega
  simp only [q4] at q3
  omega
 obtain ⟨m,hm,U,ru,lu⟩:=h.root
 refine ⟨hown,⟨m,hm,U,h2 m U ru ?_,lu⟩,fun x hx=>?_⟩
 ·by_cases m0:m=0
  ·exact .inl m0
  ·right
   have:=hown (m-1)
   rw [if_pos (by omega)] at this
   omega
 ·obtain ⟨j,rfl,j0,V,rv,lv⟩:=h.al x (by
   rcases List.mem_append.1 hx with q | q
   ·exact List.mem_of_mem_take q
   ·exact List.mem_of_mem_drop q)
  refine ⟨j,rfl,j0,V,h2 j V rv (.inr ?_),lv⟩
  have:=hown (j-1)
  rw [show ((j-1:Nat):Int)+1=(j:Int) by omega] at this
  have:=List.count_pos_iff.2 hx
  omega
end Go.Proofs.YtgfdgjkbcdmboaaGreatDoor
namespace Go.Proofs.YtgfdgjkbcdmboaaGreatDoor
set_option maxRecDepth 20000
open Go.RowKit
def Ns (w:World) (v:Value) (ss:List Int):Prop:=∃a c,v=.slice a ss.length c∧(0<ss.length→∃g o,a=some ⟨g,o,none⟩∧∀i,i<ss.length→w.cell? ⟨g,o+i,none⟩=some (.int .i64 (ss[i]?.getD 0)))
end Go.Proofs.YtgfdgjkbcdmboaaGreatDoor
namespace Go.Proofs.YtgfdgjkbcdmboaaGreatDoor
set_option maxRecDepth 20000
open Go.RowKit
end Go.Proofs.YtgfdgjkbcdmboaaGreatDoor
namespace Go.Proofs.YtgfdgjkbcdmboaaGreatDoor
set_option maxRecDepth 20000
open Go.RowKit
def azL (k:Int) (K:List Int) (v:Value) (d x y:Int):List Value:=.int .i64 k::(K.map (Value.int .u8)++[v,.int .i64 d,.int .i64 x,.int .i64 y])
end Go.Proofs.YtgfdgjkbcdmboaaGreatDoor
